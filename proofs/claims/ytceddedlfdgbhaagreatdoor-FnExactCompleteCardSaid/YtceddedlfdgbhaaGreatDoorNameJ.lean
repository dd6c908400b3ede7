/-
  HasSuffix of package strings; is a byte one of a label, is a text a label: of the program and of the specification.
-/
import Derived.Test.YtceddedlfdgbhaaGreatDoorNameI
namespace Go.Proofs.YtceddedlfdgbhaaGreatDoor.Nm
open Go.ChangeShapes Go.WideShapes Go.ChangeAt Go.RowKit
theorem hidIt {p : Prop} (h : p) : Hid p := h
theorem toList_beq (a b : ByteArray) : (a.toList == b.toList) = decide (bs a = bs b) := by
  rw [Go.Lib.toList_data, Go.Lib.toList_data]
  by_cases h : bs a = bs b
  · rw [decide_eq_true h]; exact beq_iff_eq.2 h
  · rw [decide_eq_false h]; exact beq_eq_false_iff_ne.2 h
theorem suffix_drop {a b : Bytes} : (a.drop (a.length - b.length) = b) ↔ b <:+ a := by
  rw [List.suffix_iff_eq_drop]
  exact ⟨fun e => e.symm, fun e => e.symm⟩
theorem byteOk_true {n : Nat} {b : UInt8} (e : b.toNat = n) : byteOk b = (decide (97 ≤ n) && decide (n ≤ 122) || decide (48 ≤ n) && decide (n ≤ 57) || decide (n = 45)) := by
  unfold byteOk; rw [e]
set_option maxHeartbeats 1000000 in
set_option maxRecDepth 100000 in
theorem impl_labelByteOk (b : UInt8) (w : World) :
    Calls Tryz.prog 114 #[.int .u8 (b.toNat : Int)] w fun e w' => e = .returned (.bool (byteOk b)) ∧ w' = w := by
  obtain ⟨n, e⟩ : ∃ n, b.toNat = n := ⟨_, rfl⟩
  rw [byteOk_true e, e]
  by_cases h1 : 97 ≤ n
  · have h1' : (97 : Int) ≤ (n : Int) := by omega
    by_cases h2 : n ≤ 122
    · have h2' : (n : Int) ≤ 122 := by omega
      go_enter Tryz.func114, Tryz.ntmps114
      go_wp2
      go_ret
      exact ⟨by simp [h1, h2], rfl⟩
    · have h2' : decide ((n : Int) ≤ 122) = false := by simp; omega
      have h3' : (48 : Int) ≤ (n : Int) := by omega
      have h4' : decide ((n : Int) ≤ 57) = false := by simp; omega
      have h5' : ((n : Int) == 45) = false := by simp; omega
      go_enter Tryz.func114, Tryz.ntmps114
      go_wp2
      go_ret
      have : ¬ n ≤ 57 := by omega
      have : ¬ n = 45 := by omega
      exact ⟨by simp_all, rfl⟩
  · have h1' : decide ((97 : Int) ≤ (n : Int)) = false := by simp; omega
    by_cases h3 : 48 ≤ n
    · have h3' : (48 : Int) ≤ (n : Int) := by omega
      by_cases h4 : n ≤ 57
      · have h4' : (n : Int) ≤ 57 := by omega
        go_enter Tryz.func114, Tryz.ntmps114
        go_wp2
        go_ret
        exact ⟨by simp [h3, h4], rfl⟩
      · have h4' : decide ((n : Int) ≤ 57) = false := by simp; omega
        have h5' : ((n : Int) == 45) = false := by simp; omega
        go_enter Tryz.func114, Tryz.ntmps114
        go_wp2
        go_ret
        have h6 : ¬ n = 45 := by omega
        rw [decide_eq_false h1, decide_eq_false h4, decide_eq_false h6]
        exact ⟨by simp, rfl⟩
    · have h3' : decide ((48 : Int) ≤ (n : Int)) = false := by simp; omega
      by_cases h5 : n = 45
      · subst h5
        go_enter Tryz.func114, Tryz.ntmps114
        go_wp2
        go_ret
        exact ⟨rfl, rfl⟩
      · have h5' : ((n : Int) == 45) = false := by simp; omega
        go_enter Tryz.func114, Tryz.ntmps114
        go_wp2
        go_ret
        rw [decide_eq_false h1, decide_eq_false h3, decide_eq_false h5]
        exact ⟨by simp, rfl⟩
theorem labelOk_cut {s : ByteArray} {i : Nat} (hi : i < s.size) (h : byteOk s[i] = false) : labelOk (bs s) = false := by
  unfold labelOk
  have : (bs s).all byteOk = false := by
    rw [List.all_eq_false]
    exact ⟨s[i], by show s[i] ∈ s.data.toList; rw [Array.mem_toList_iff]; exact Array.getElem_mem hi, by rw [h]; simp⟩
  rw [this, Bool.false_and]
theorem labelOk_all {s : ByteArray} (h : ∀ j, (hj : j < s.size) → byteOk s[j] = true) : labelOk (bs s) = (decide (1 ≤ s.size) && decide (s.size ≤ 12)) := by
  unfold labelOk
  have : (bs s).all byteOk = true := by
    rw [List.all_eq_true]
    intro c hc
    obtain ⟨j, hj, rfl⟩ := List.mem_iff_getElem.1 hc
    exact h j (by simpa using hj)
  rw [this, Bool.true_and, bs_length]
set_option maxHeartbeats 2000000 in
set_option maxRecDepth 100000 in
theorem impl_labelOk (s : ByteArray) (w : World) (hs : s.size ≤ 1000000) :
    Calls Tryz.prog 102 #[.string s] w fun e w' => e = .returned (.bool (labelOk (bs s))) ∧ w' = w := by
  by_cases h0 : s = ByteArray.empty
  · subst h0
    go_enter Tryz.func102, Tryz.ntmps102
    go_wp2_with (fail)
    go_ret
    exact ⟨rfl, rfl⟩
  · have h0' : (s.toList == []) = false := by
      rw [Go.Lib.toList_data]
      exact beq_eq_false_iff_ne.2 (fun e => h0 (bs_inj e))
    have hz : 1 ≤ s.size := by
      rcases Nat.eq_zero_or_pos s.size with e | e
      · exact absurd (bs_inj (List.eq_nil_of_length_eq_zero ((bs_length s).trans e))) h0
      · exact e
    by_cases h12 : 12 < s.size
    · have h1 : (12 : Int) < (s.size : Int) := by omega
      have hr : labelOk (bs s) = false := by
        unfold labelOk
        rw [bs_length, decide_eq_false (p := s.size ≤ 12) (by omega), Bool.and_false, Bool.and_false]
      rw [hr]
      go_enter Tryz.func102, Tryz.ntmps102
      go_wp2_with (fail)
      go_ret
      exact ⟨rfl, rfl⟩
    · have h1 : decide ((12 : Int) < (s.size : Int)) = false := by simp; omega
      have h1b : ¬ (12 : Int) < (s.size : Int) := by omega
      have HZ := hidIt hz
      have HR : Hid (∀ i, (hi : i < s.size) → byteOk s[i] = false → labelOk (bs s) = false) := hidIt (fun i hi h => labelOk_cut hi h)
      have HA : Hid ((∀ j, (hj : j < s.size) → byteOk s[j] = true) → labelOk (bs s) = true) := hidIt (fun h => by rw [labelOk_all h, decide_eq_true hz, decide_eq_true (by omega)]; rfl)
      generalize labelOk (bs s) = res at HR HA ⊢
      clear hz
      go_enter Tryz.func102, Tryz.ntmps102
      go_wp2_with (fail)
      go_loopw [13] (fun y wx => ∃ i : Nat, y = .int .i64 i ∧ i ≤ s.size ∧ Hid (∀ j, (hj : j < s.size) → j < i → byteOk s[j] = true) ∧ wx = w) (fun y _ => (s.size - intOf y).toNat)
      case atStart => exact ⟨0, rfl, by omega, hidIt (fun j _ hj => by omega), rfl⟩
      case round =>
        obtain ⟨i, rfl, hi, hG, rfl⟩ := hrel
        by_cases hin : i < s.size
        · have hin' : (i : Int) < (s.size : Int) := by omega
          have hB := impl_labelByteOk s[i] 
          cases hb : byteOk s[i] with
          | true =>
            rw [hb] at hB
            go_wp2_with (go_at_call 114; refine (hB _).mono ?_; rintro e w' ⟨rfl, rfl⟩)
            refine ⟨⟨i + 1, by simp, by omega, hidIt (fun j hj hj' => ?_), by trivial⟩, by simp [intOf]; omega⟩
            rcases Nat.lt_or_ge j i with h' | h'
            · exact hG.out j hj h'
            · have : j = i := by omega
              subst this
              exact hb
          | false =>
            rw [hb] at hB
            go_wp2_with (go_at_call 114; refine (hB _).mono ?_; rintro e w' ⟨rfl, rfl⟩)
            go_ret
            rw [HR.out i hin hb]
            exact ⟨rfl, rfl⟩
        · have hin' : ¬ (i : Int) < (s.size : Int) := by omega
          go_wp2_with (fail)
          go_ret
          rw [HA.out (fun j hj => hG.out j hj (by omega))]
          exact ⟨rfl, rfl⟩
end Go.Proofs.YtceddedlfdgbhaaGreatDoor.Nm
