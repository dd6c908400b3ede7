/-
  Is a text a label, NameOk and Before of the specification.
-/
import Derived.Test.YtceddedlfdgbhaaGreatDoorNameS
import Derived.Test.YtceddedlfdgbhaaGreatDoorNameM
namespace Go.Proofs.YtceddedlfdgbhaaGreatDoor.Nm
open Go.ChangeShapes Go.WideShapes Go.ChangeAt Go.RowKit
theorem byte_arms (n : Nat) : n = 45 ∨ (97 ≤ n ∧ n ≤ 122) ∨ (48 ≤ n ∧ n ≤ 57) ∨ (n < 48 ∧ n ≠ 45) ∨ (57 < n ∧ n < 97) ∨ 122 < n := by omega
set_option maxRecDepth 100000 in
set_option maxHeartbeats 4000000 in
theorem spec_l5Label (s : ByteArray) (w : World) (hs : s.size ≤ 1000000) :
    Calls Tryz.prog 76 #[.string s] w fun e w' => e = .returned (.bool (labelOk (bs s))) ∧ w' = w := by
  have HR : Hid (∀ i, (hi : i < s.size) → byteOk s[i] = false → labelOk (bs s) = false) := hidIt (fun i hi h => labelOk_cut hi h)
  have HA : Hid ((∀ j, (hj : j < s.size) → byteOk s[j] = true) → labelOk (bs s) = (decide (1 ≤ s.size) && decide (s.size ≤ 12))) := hidIt labelOk_all
  generalize labelOk (bs s) = res at HR HA ⊢
  go_enter Tryz.func76, Tryz.ntmps76
  go_wp2_with (fail)
  go_loopw [3] (fun y wx => ∃ i : Nat, y = .int .i64 i ∧ i ≤ s.size ∧ Hid (∀ j, (hj : j < s.size) → j < i → byteOk s[j] = true) ∧ wx = w) (fun y _ => (s.size - intOf y).toNat)
  case atStart => exact ⟨0, rfl, by omega, hidIt (fun j _ hj => by omega), rfl⟩
  case round =>
    obtain ⟨i, rfl, hi, hG, rfl⟩ := hrel
    by_cases hin : i < s.size
    · have hin' : (i : Int) < (s.size : Int) := by omega
      obtain ⟨n, hb⟩ : ∃ n, (s[i]).toNat = n := ⟨_, rfl⟩
      rcases byte_arms n with a1 | a2 | a3 | a4 | a5 | a6
      · have ar := a1
        have q0 : (((s[i]).toNat : Int) != 45) = false := by rw [hb, a1]; rfl
        have HOK : Hid (byteOk s[i] = true) := by show byteOk s[i] = true; unfold byteOk; rw [hb]; simp; omega
        clear hb
        go_wp2_with (fail)
        refine ⟨⟨i + 1, by simp, by omega, hidIt (fun j hj hj' => ?_), by trivial⟩, by simp [intOf]; omega⟩
        rcases Nat.lt_or_ge j i with h' | h'
        · exact hG.out j hj h'
        · have : j = i := by omega
          subst this
          exact HOK.out
      · have ar := a2
        have q0 : (((s[i]).toNat : Int) != 45) = true := by rw [hb]; simp; omega
        have q1 : decide (((s[i]).toNat : Int) < 97) = false := by rw [hb]; simp; omega
        have q2 : decide ((122 : Int) < ((s[i]).toNat : Int)) = false := by rw [hb]; simp; omega
        have HOK : Hid (byteOk s[i] = true) := by show byteOk s[i] = true; unfold byteOk; rw [hb]; simp; omega
        clear hb
        go_wp2_with (fail)
        refine ⟨⟨i + 1, by simp, by omega, hidIt (fun j hj hj' => ?_), by trivial⟩, by simp [intOf]; omega⟩
        rcases Nat.lt_or_ge j i with h' | h'
        · exact hG.out j hj h'
        · have : j = i := by omega
          subst this
          exact HOK.out
      · have ar := a3
        have q0 : (((s[i]).toNat : Int) != 45) = true := by rw [hb]; simp; omega
        have q1 : decide (((s[i]).toNat : Int) < 97) = true := by rw [hb]; simp; omega
        have q2 : decide (((s[i]).toNat : Int) < 48) = false := by rw [hb]; simp; omega
        have q3 : decide ((57 : Int) < ((s[i]).toNat : Int)) = false := by rw [hb]; simp; omega
        have HOK : Hid (byteOk s[i] = true) := by show byteOk s[i] = true; unfold byteOk; rw [hb]; simp; omega
        clear hb
        go_wp2_with (fail)
        refine ⟨⟨i + 1, by simp, by omega, hidIt (fun j hj hj' => ?_), by trivial⟩, by simp [intOf]; omega⟩
        rcases Nat.lt_or_ge j i with h' | h'
        · exact hG.out j hj h'
        · have : j = i := by omega
          subst this
          exact HOK.out
      · have ar := a4
        have q0 : (((s[i]).toNat : Int) != 45) = true := by rw [hb]; simp; omega
        have q1 : decide (((s[i]).toNat : Int) < 97) = true := by rw [hb]; simp; omega
        have q2 : decide (((s[i]).toNat : Int) < 48) = true := by rw [hb]; simp; omega
        have HBAD : Hid (byteOk s[i] = false) := by show byteOk s[i] = false; unfold byteOk; rw [hb]; simp; omega
        clear hb
        go_wp2_with (fail)
        go_ret
        rw [HR.out i hin HBAD.out]
        exact ⟨rfl, rfl⟩
      · have ar := a5
        have q0 : (((s[i]).toNat : Int) != 45) = true := by rw [hb]; simp; omega
        have q1 : decide (((s[i]).toNat : Int) < 97) = true := by rw [hb]; simp; omega
        have q2 : decide (((s[i]).toNat : Int) < 48) = false := by rw [hb]; simp; omega
        have q3 : decide ((57 : Int) < ((s[i]).toNat : Int)) = true := by rw [hb]; simp; omega
        have HBAD : Hid (byteOk s[i] = false) := by show byteOk s[i] = false; unfold byteOk; rw [hb]; simp; omega
        clear hb
        go_wp2_with (fail)
        go_ret
        rw [HR.out i hin HBAD.out]
        exact ⟨rfl, rfl⟩
      · have ar := a6
        have q0 : (((s[i]).toNat : Int) != 45) = true := by rw [hb]; simp; omega
        have q1 : decide (((s[i]).toNat : Int) < 97) = false := by rw [hb]; simp; omega
        have q2 : decide ((122 : Int) < ((s[i]).toNat : Int)) = true := by rw [hb]; simp; omega
        have q3 : decide (((s[i]).toNat : Int) < 48) = false := by rw [hb]; simp; omega
        have q4 : decide ((57 : Int) < ((s[i]).toNat : Int)) = true := by rw [hb]; simp; omega
        have HBAD : Hid (byteOk s[i] = false) := by show byteOk s[i] = false; unfold byteOk; rw [hb]; simp; omega
        clear hb
        go_wp2_with (fail)
        go_ret
        rw [HR.out i hin HBAD.out]
        exact ⟨rfl, rfl⟩
    · have hin' : ¬ (i : Int) < (s.size : Int) := by omega
      have HE := hidIt (HA.out (fun j hj => hG.out j hj (by omega)))
      by_cases h1 : 1 ≤ s.size
      · have h1' : (1 : Int) ≤ (s.size : Int) := by omega
        by_cases h2 : s.size ≤ 12
        · have h2' : (s.size : Int) ≤ 12 := by omega
          go_wp2_with (fail)
          go_ret
          rw [HE.out, decide_eq_true h1, decide_eq_true h2]
          exact ⟨rfl, rfl⟩
        · have h2' : decide ((s.size : Int) ≤ 12) = false := by simp; omega
          go_wp2_with (fail)
          go_ret
          rw [HE.out, decide_eq_true h1, decide_eq_false h2]
          exact ⟨rfl, rfl⟩
      · have h1' : decide ((1 : Int) ≤ (s.size : Int)) = false := by simp; omega
        go_wp2_with (fail)
        go_ret
        rw [HE.out, decide_eq_false h1]
        exact ⟨rfl, rfl⟩
set_option maxRecDepth 100000 in
set_option maxHeartbeats 4000000 in
theorem spec_NameOk (s : ByteArray) (w : World) :
    Calls Tryz.prog 57 #[.string s] w fun e w' => e = .returned (.bool (okB (bs s))) ∧ Below w.heap.size w w' := by
  by_cases h : 60 < s.size
  · have h1 : (60 : Int) < (s.size : Int) := by omega
    rw [okB_long (by rw [bs_length]; exact h)]
    go_enter Tryz.func57, Tryz.ntmps57
    go_wp2_with (fail)
    go_ret
    exact ⟨rfl, Below.refl _ _⟩
  · have h1 : ¬ (60 : Int) < (s.size : Int) := by omega
    have hL := fun w => spec_l5Labels s w (by omega)
    have HM : Hid (∀ i, i < (LB (bs s)).length → (sat (LB (bs s)) i).size ≤ 60) := hidIt (fun i hi => by
      rw [LB_length] at hi
      have := labels_short (LB_sat_mem hi)
      rw [bs_length, bs_length] at this
      omega)
    have HX : Hid (∀ i, i < (LB (bs s)).length → labelOk (bs (sat (LB (bs s)) i)) = false → okB (bs s) = false) := hidIt (fun i hi hf => ok_bad (LB_sat_mem (by rw [LB_length] at hi; exact hi)) hf)
    have HG : Hid ((∀ i, i < (LB (bs s)).length → labelOk (bs (sat (LB (bs s)) i)) = true) → okB (bs s) = decide ((LB (bs s)).length ≤ 6)) := hidIt (fun hall => by
      rw [LB_length] at hall ⊢
      by_cases h6 : (labels (bs s)).length ≤ 6
      · rw [decide_eq_true h6]
        refine ok_good (by rw [bs_length]; omega) h6 (fun p hp => ?_)
        obtain ⟨i, hi, rfl⟩ := List.mem_iff_getElem.1 hp
        have := hall i hi
        rwa [LB_at hi] at this
      · rw [decide_eq_false h6]
        exact ok_many (by omega))
    have hlen : (LB (bs s)).length ≤ 61 := by
      rw [LB_length]
      have := labels_count (bs s)
      rw [bs_length] at this
      omega
    generalize LB (bs s) = L at hL HM HX HG hlen
    generalize okB (bs s) = res at HX HG ⊢
    go_enter Tryz.func57, Tryz.ntmps57
    go_wp2_with (go_at_call 75; refine (hL _).mono ?_; rintro e w1 ⟨v, rfl, ho, hb⟩; obtain ⟨a, cap, rfl, hcap, hcm, hrd, _, _⟩ := ho.form)
    clear ho hL
    have HR := hidIt hrd
    have HB := hidIt hb
    generalize hn : L.length = n at hcap hlen ⊢
    have HN := hidIt hn
    clear hrd hb hn
    go_loopw [4] (fun y wx => ∃ i : Nat, y = .int .i64 i ∧ i ≤ n ∧ Hid (∀ j, j < i → labelOk (bs (sat L j)) = true) ∧ wx = w1) (fun y _ => (n - intOf y).toNat)
    case atStart => exact ⟨0, rfl, by omega, hidIt (fun j hj => by omega), rfl⟩
    case round =>
      obtain ⟨i, rfl, hi, hG, rfl⟩ := hrel
      by_cases hin : i < n
      · have hin' : (i : Int) < (n : Int) := by omega
        obtain ⟨b, off, rfl, c0⟩ := HR.out.cell i (by rw [HN.out]; exact hin)
        have hs6 := HM.out i (by rw [HN.out]; exact hin)
        have hC := spec_l5Label (sat L i)
        have HXi := hidIt (HX.out i (by rw [HN.out]; exact hin))
        cases hv : labelOk (bs (sat L i)) with
        | true =>
          rw [hv] at hC
          generalize sat L i = t at c0 hC hs6
          have hs7 : t.size ≤ 1000000 := by omega
          go_wp2_with (go_at_call 76; refine (hC _ hs7).mono ?_; rintro e w' ⟨rfl, rfl⟩)
          refine ⟨⟨i + 1, by simp, by omega, hidIt (fun j hj => ?_), by trivial⟩, by simp [intOf]; omega⟩
          rcases Nat.lt_or_ge j i with h' | h'
          · exact hG.out j h'
          · have : j = i := by omega
            subst this
            exact hv
        | false =>
          rw [hv] at hC
          generalize sat L i = t at c0 hC hs6
          have hs7 : t.size ≤ 1000000 := by omega
          go_wp2_with (go_at_call 76; refine (hC _ hs7).mono ?_; rintro e w' ⟨rfl, rfl⟩)
          go_ret
          rw [HXi.out hv]
          exact ⟨rfl, HB.out⟩
      · have hin' : ¬ (i : Int) < (n : Int) := by omega
        go_wp2_with (fail)
        go_ret
        rw [HG.out (fun j hj => hG.out j (by rw [HN.out] at hj; omega)), HN.out]
        refine ⟨?_, HB.out⟩
        show Ending.returned (.bool (decide ((n : Int) ≤ 6))) = .returned (.bool (decide (n ≤ 6)))
        rw [show decide ((n : Int) ≤ 6) = decide (n ≤ 6) from decide_eq_decide.2 (by omega)]
end Go.Proofs.YtceddedlfdgbhaaGreatDoor.Nm
