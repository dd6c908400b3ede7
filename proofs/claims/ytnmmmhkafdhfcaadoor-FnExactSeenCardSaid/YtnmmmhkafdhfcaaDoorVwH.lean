/-
  What the landed program asks of a book, a token and a Key: a token, its Key, the name of a Key, whether an Entry is seen; what can't be read gives up by a panic.
-/
import Derived.Test.YtnmmmhkafdhfcaaDoorVwP
import Derived.Test.YtnmmmhkafdhfcaaDoorRuJ
import Derived.Test.YtnmmmhkafdhfcaaDoorNameL
import Derived.Test.YtnmmmhkafdhfcaaDoorBoxM
import Derived.Test.YtnmmmhkafdhfcaaDoorSenV
import Derived.Defers
import Derived.Recover
import Derived.WalkSmall
namespace Go.Proofs.YtnmmmhkafdhfcaaDoor.Vw
open Go.ChangeShapes Go.WideShapes Go.ChangeAt Go.RowKit
open Go.Proofs.YtnmmmhkafdhfcaaDoor.Rc (BelowBy BelowBy.one wp_region_below calls_below calls_same)
set_option linter.unusedVariables false
theorem empty_is (x : ByteArray) : x.toList.isEmpty = decide (x.size = 0) := by
  rw [Go.Lib.toList_data]
  have e : x.data.toList.length = x.size := bs_length x
  cases hl : x.data.toList with
  | nil =>
    rw [hl] at e
    simp at e
    rw [decide_eq_true (by omega)]
    rfl
  | cons a b =>
    rw [hl] at e
    simp at e
    rw [decide_eq_false (by omega)]
    rfl
set_option maxRecDepth 100000 in
set_option maxHeartbeats 8000000 in
theorem impl_tokenOk (x : ByteArray) (w : World) (hs : x.size ≤ 9223372036854775806) :
    Calls Tryd.prog 53 #[.string x] w fun e w' => e = .returned (.bool (tokB x)) ∧ w' = w := by
  have hem := empty_is x
  by_cases h1 : x.size < 1
  · rw [decide_eq_true (p := x.size = 0) (by omega)] at hem
    rw [tok_none h1]
    go_enter Tryd.func53, Tryd.ntmps53
    go_wp2_with (fail)
    go_ret
    exact ⟨rfl, rfl⟩
  rw [decide_eq_false (p := x.size = 0) (by omega)] at hem
  by_cases h12 : 12 < x.size
  · have h12' : (12 : Int) < (x.size : Int) := by omega
    rw [tok_long h12]
    go_enter Tryd.func53, Tryd.ntmps53
    go_wp2_with (fail)
    go_ret
    exact ⟨rfl, rfl⟩
  have h12' : ¬ (12 : Int) < (x.size : Int) := by omega
  have HX1 : Hid (∀ j, (hj : j < x.size) → letB x[j] = false → tokB x = false) := hidIt (fun j hj g => tok_bad hj g)
  have HX2 : Hid ((∀ j, (hj : j < x.size) → letB x[j] = true) → tokB x = true) := hidIt (fun g => by rw [tok_all g, decide_eq_true (by omega), decide_eq_true (by omega)]; rfl)
  generalize tokB x = r at HX1 HX2 ⊢
  go_enter Tryd.func53, Tryd.ntmps53
  go_wp2_with (fail)
  go_loopw [13] (fun y wx => ∃ q : Nat, y = .int .i64 q ∧ q ≤ x.size ∧ Hid (∀ j, (hj : j < x.size) → j < q → letB x[j] = true) ∧ wx = w) (fun y _ => (x.size - intOf y).toNat)
  case atStart => exact ⟨0, rfl, by omega, hidIt (fun j _ hj => by omega), rfl⟩
  case round =>
    obtain ⟨q, rfl, hq, HG, rfl⟩ := hrel
    by_cases hqn : q < x.size
    · have hqn' : (q : Int) < (x.size : Int) := by omega
      obtain ⟨n, hb⟩ : ∃ n, (x[q]).toNat = n := ⟨_, rfl⟩
      rcases let_arms n with a1 | a2 | a3
      · have q1 : decide (((x[q]).toNat : Int) < 97) = false := by rw [hb]; simp; omega
        have q2 : decide ((122 : Int) < ((x[q]).toNat : Int)) = false := by rw [hb]; simp; omega
        have HOK : Hid (letB x[q] = true) := hidIt (letB_yes (by omega) (by omega))
        clear hb
        go_wp2_with (fail)
        refine ⟨⟨q + 1, by simp, by omega, hidIt (fun j hj hj' => ?_), trivial⟩, by simp [intOf]; omega⟩
        rcases Nat.lt_or_ge j q with h' | h'
        · exact HG.out j hj h'
        · have : j = q := by omega
          subst this
          exact HOK.out
      · have q1 : decide (((x[q]).toNat : Int) < 97) = true := by rw [hb]; simp; omega
        have er := HX1.out q hqn (letB_no (Or.inl (by omega)))
        clear hb
        subst er
        go_wp2_with (fail)
        go_ret
        exact ⟨rfl, rfl⟩
      · have q1 : decide (((x[q]).toNat : Int) < 97) = false := by rw [hb]; simp; omega
        have q2 : decide ((122 : Int) < ((x[q]).toNat : Int)) = true := by rw [hb]; simp; omega
        have er := HX1.out q hqn (letB_no (Or.inr (by omega)))
        clear hb
        subst er
        go_wp2_with (fail)
        go_ret
        exact ⟨rfl, rfl⟩
    · have hqn' : ¬ (q : Int) < (x.size : Int) := by omega
      have er := HX2.out (fun j hj => HG.out j hj (by omega))
      subst er
      go_wp2_with (fail)
      go_ret
      exact ⟨rfl, rfl⟩
theorem svc_eq (k : ByteArray) : ((k.extract 0 4).toList == [115, 118, 99, 47]) = decide (bs (k.extract 0 4) = [115, 118, 99, 47]) := by
  rw [Go.Lib.toList_data, Bool.eq_iff_iff, beq_iff_eq, decide_eq_true_eq]
set_option maxRecDepth 100000 in
set_option maxHeartbeats 4000000 in
/-- HasPrefix at svc/. -/
theorem lib_svc (k : ByteArray) (w : World) (hk : k.size ≤ 9223372036854775807) :
    Calls Tryd.prog 80 #[.string k, .string ⟨#[115, 118, 99, 47]⟩] w fun e w' => e = .returned (.bool (decide (4 ≤ k.size) && decide (bs (k.extract 0 4) = [115, 118, 99, 47]))) ∧ w' = w := by
  have heq := svc_eq k
  by_cases h4 : 4 ≤ k.size
  · have h4' : (4 : Int) ≤ (k.size : Int) := by omega
    rw [decide_eq_true h4, Bool.true_and]
    generalize decide (bs (k.extract 0 4) = [115, 118, 99, 47]) = r at heq ⊢
    clear h4
    go_enter Tryd.func80, Tryd.ntmps80
    go_wp2
    go_ret
    exact ⟨rfl, rfl⟩
  · have h4' : ¬ (4 : Int) ≤ (k.size : Int) := by omega
    rw [decide_eq_false h4, Bool.false_and]
    clear h4
    go_enter Tryd.func80, Tryd.ntmps80
    go_wp2
    go_ret
    exact ⟨rfl, rfl⟩
set_option maxRecDepth 100000 in
set_option maxHeartbeats 4000000 in
theorem lib_CutPrefix (k : ByteArray) (w : World) (hk : k.size ≤ 9223372036854775807) :
    Calls Tryd.prog 72 #[.string k, .string ⟨#[115, 118, 99, 47]⟩] w fun e w' => ∃ u : ByteArray, e = .returned (.tuple #[.string u, .bool (decide (4 ≤ k.size) && decide (bs (k.extract 0 4) = [115, 118, 99, 47]))]) ∧ ((decide (4 ≤ k.size) && decide (bs (k.extract 0 4) = [115, 118, 99, 47])) = true → u = k.extract 4 k.size) ∧ w' = w := by
  have H : Calls Tryd.prog 86 #[.string k, .string ⟨#[115, 118, 99, 47]⟩] w fun e w' => ∃ u : ByteArray, e = .returned (.tuple #[.string u, .bool (decide (4 ≤ k.size) && decide (bs (k.extract 0 4) = [115, 118, 99, 47]))]) ∧ ((decide (4 ≤ k.size) && decide (bs (k.extract 0 4) = [115, 118, 99, 47])) = true → u = k.extract 4 k.size) ∧ w' = w := by
    have C := hidIt (lib_svc k w hk)
    have H4 : Hid ((decide (4 ≤ k.size) && decide (bs (k.extract 0 4) = [115, 118, 99, 47])) = true → (4 : Int) ≤ (k.size : Int)) := hidIt (fun h => by simp only [Bool.and_eq_true, decide_eq_true_eq] at h; omega)
    generalize (decide (4 ≤ k.size) && decide (bs (k.extract 0 4) = [115, 118, 99, 47])) = r at C H4 ⊢
    cases r with
    | false =>
      go_enter Tryd.func86, Tryd.ntmps86
      go_wp2_with (fail)
      refine C.out.mono ?_
      rintro e w1 ⟨rfl, rfl⟩
      go_wp2_with (fail)
      refine bodyPost_ret (v := .tuple #[.string k, .bool false]) (by simp [results, Tryd.results86, go_sem]) rfl ⟨k, rfl, (fun h => by cases h), rfl⟩
    | true =>
      have h4 := H4.out rfl
      go_enter Tryd.func86, Tryd.ntmps86
      go_wp2_with (fail)
      refine C.out.mono ?_
      rintro e w1 ⟨rfl, rfl⟩
      go_wp2_with (fail)
      refine bodyPost_ret (v := .tuple #[.string (k.extract 4 k.size), .bool true]) (by simp [results, Tryd.results86, go_sem]) rfl ⟨_, rfl, fun _ => rfl, rfl⟩
  have H' := hidIt H
  clear H
  generalize (decide (4 ≤ k.size) && decide (bs (k.extract 0 4) = [115, 118, 99, 47])) = r at H' ⊢
  go_enter Tryd.func72, Tryd.ntmps72
  go_wp2_with (fail)
  refine H'.out.mono ?_
  rintro e w1 ⟨u, rfl, hu, rfl⟩
  have HU := hidIt hu
  clear hu
  go_wp2_with (fail)
  refine bodyPost_ret (v := .tuple #[.string u, .bool r]) (by simp [results, Tryd.results72, go_sem]) rfl ⟨u, rfl, HU.out, rfl⟩
theorem svcB_cut {k : ByteArray} : svcB k = ((decide (4 ≤ k.size) && decide (bs (k.extract 0 4) = [115, 118, 99, 47])) && (decide (k.size ≠ 4) && Nm.okB (bs (k.extract 4 k.size)))) := by
  unfold svcB
  by_cases h4 : 4 ≤ k.size
  · by_cases h5 : k.size = 4
    · rw [decide_eq_false (p := 5 ≤ k.size) (by omega), decide_eq_false (p := k.size ≠ 4) (by omega)]
      simp
    · rw [decide_eq_true (p := 5 ≤ k.size) (by omega), decide_eq_true h4, decide_eq_true (p := k.size ≠ 4) h5]
      simp
  · rw [decide_eq_false (p := 5 ≤ k.size) (by omega), decide_eq_false h4]
    simp
theorem cut_empty {k : ByteArray} (h : 4 ≤ k.size) : (k.extract 4 k.size).toList.isEmpty = decide (k.size = 4) := by
  rw [Go.Lib.toList_data]
  have e : (k.extract 4 k.size).data.toList.length = k.size - 4 := by
    have := bs_length (k.extract 4 k.size)
    rw [this]
    simp
  cases hl : (k.extract 4 k.size).data.toList with
  | nil =>
    rw [hl] at e
    simp at e
    rw [decide_eq_true (by omega)]
    rfl
  | cons a b =>
    rw [hl] at e
    simp at e
    rw [decide_eq_false (by omega)]
    rfl
set_option maxRecDepth 100000 in
set_option maxHeartbeats 8000000 in
theorem readS_yes (s : ByteArray) (w : World) : Calls Tryd.prog 39 #[.string s, .bool true] w fun e w' => e = .returned (.string s) ∧ w' = w := by
  go_enter Tryd.func39, Tryd.ntmps39
  go_wp2_with (fail)
  go_ret
  exact ⟨rfl, rfl⟩
set_option maxRecDepth 100000 in
set_option maxHeartbeats 8000000 in
theorem readS_no (s : ByteArray) (eu : Addr) (w : World) (h : Se.At w 0 eu) : Calls Tryd.prog 39 #[.string s, .bool false] w fun e w' => e = .panicked [{ v := .iface 116 (.pointer (some eu)), recovered := false }] ∧ w' = w := by
  have hc := h.c
  clear h
  go_enter Tryd.func39, Tryd.ntmps39
  go_wp2_with (fail)
  exact ⟨rfl, rfl, rfl⟩
set_option maxRecDepth 100000 in
set_option maxHeartbeats 8000000 in
theorem readR_yes (a : Option Addr) (n c : Nat) (w : World) : Calls Tryd.prog 42 #[.slice a n c, .bool true] w fun e w' => e = .returned (.slice a n c) ∧ w' = w := by
  go_enter Tryd.func42, Tryd.ntmps42
  go_wp2_with (fail)
  go_ret
  exact ⟨rfl, rfl⟩
set_option maxRecDepth 100000 in
set_option maxHeartbeats 8000000 in
theorem readR_no (a : Option Addr) (n c : Nat) (eu : Addr) (w : World) (h : Se.At w 0 eu) : Calls Tryd.prog 42 #[.slice a n c, .bool false] w fun e w' => e = .panicked [{ v := .iface 116 (.pointer (some eu)), recovered := false }] ∧ w' = w := by
  have hc := h.c
  clear h
  go_enter Tryd.func42, Tryd.ntmps42
  go_wp2_with (fail)
  exact ⟨rfl, rfl, rfl⟩
end Go.Proofs.YtnmmmhkafdhfcaaDoor.Vw
