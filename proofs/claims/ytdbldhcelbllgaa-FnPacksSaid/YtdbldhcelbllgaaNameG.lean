/-
  What FnNames asks, in plain words, of the answers of the program's functions; two lists of texts held against each other.
-/
import Derived.Test.YtdbldhcelbllgaaNameF
import Derived.Test.YtdbldhcelbllgaaNameD
import Derived.Test.YtdbldhcelbllgaaNameO
import Derived.Test.YtdbldhcelbllgaaNameV
import Derived.Deep.QuietTactic
import Derived.BigQuiet
namespace Go.Proofs.Ytdbldhcelbllgaa.Nm
open Go.ChangeShapes Go.WideShapes Go.ChangeAt Go.RowKit
theorem labs_len (l : Bytes) : (labsB l).length ≤ 61 := by
  unfold labsB
  split
  · next h =>
    rw [LB_length]
    have := labels_count l
    have := ok_short h
    omega
  · simp
theorem labs_ok {l : Bytes} (h : okB l = true) : (labsB l).length = (labels l).length := by
  unfold labsB
  rw [if_pos h, LB_length]
/-- The order and Under, of four texts. -/
theorem names_four (a b c d : Bytes) : beforeB a a = false ∧ (okB a = true → okB b = true → (beforeB a b = true → beforeB b a = false) ∧ (beforeB a b = false → beforeB b a = false → a = b)) ∧
    ((okB a && okB b) = false → beforeB a b = false) ∧ (underB c d = true → c ≠ d → beforeB d c = true) ∧ (underB c d = true → (labsB d).length ≤ (labsB c).length) ∧
    (underB c d = true → beforeB d a = true → beforeB a c = true → underB a d = true) := by
  refine ⟨before_irrefl a, fun ha hb => ⟨before_asymm, before_total ha hb⟩, fun h => ?_, under_before, fun h => ?_, under_between⟩
  · unfold beforeB
    rw [h, Bool.false_and]
  · obtain ⟨hc, hd, _⟩ := and3.1 h
    rw [labs_ok hc, labs_ok hd]
    exact under_count h
/-- Of one text: its Parent, its Star, its labels. -/
theorem names_one (n : Bytes) : ((labsB n).length = 0 → parentB n = []) ∧ ((labsB n).length ≠ 0 → underB n (parentB n) = true ∧ (labsB (parentB n)).length + 1 = (labsB n).length ∧ starB n = [42, 46] ++ parentB n) := by
  cases hk : okB n with
  | false =>
    have e : labsB n = [] := by unfold labsB; rw [if_neg (by rw [hk]; simp)]
    have e2 : parentB n = [] := by unfold parentB; rw [if_neg (by rw [hk]; simp)]
    exact ⟨fun _ => e2, fun h => absurd (by rw [e]; rfl) h⟩
  | true =>
    have e2 : parentB n = after n := by unfold parentB; rw [if_pos hk]
    rw [e2, labs_ok hk]
    refine ⟨fun h => ?_, fun h => ?_⟩
    · have : n = [] := labels_eq_nil (List.eq_nil_of_length_eq_zero h)
      subst this
      rfl
    · have hn : n ≠ [] := fun k => by subst k; exact h rfl
      obtain ⟨p, e⟩ := labels_after hn hk
      refine ⟨under_after hk, ?_, ?_⟩
      · rw [labs_ok (ok_after hk), e]
        rfl
      · unfold starB
        rw [if_pos ⟨hk, hn⟩]
set_option maxRecDepth 100000 in
set_option maxHeartbeats 4000000 in
theorem likeTexts_any (a b : Option Addr) (ca cb : Nat) (L : List ByteArray) (w : World) (ha : Rd w a L) (hb : Rd w b L) (hl : L.length ≤ 9223372036854775806) :
    Calls Try.prog 14 #[.slice a L.length ca, .slice b L.length cb] w fun e w' => e = .returned (.bool true) ∧ Below w.heap.size w w' := by
  generalize hn : L.length = n at *
  have HA := hidIt ha
  have HB := hidIt hb
  have HN := hidIt hn
  clear ha hb hn
  have hnn : ((n : Int) != (n : Int)) = false := by simp
  go_enter Try.func14, Try.ntmps14
  go_wp2_with (fail)
  go_loopw [5] (fun y wx => ∃ i : Nat, y = .int .i64 i ∧ i ≤ n ∧ Below w.heap.size w wx) (fun y _ => (n - intOf y).toNat)
  case atStart => exact ⟨0, rfl, by omega, Below.refl _ _⟩
  case round =>
    obtain ⟨i, rfl, hi, hB⟩ := hrel
    have RA := hidIt (HA.out.kept hB)
    have RB := hidIt (HB.out.kept hB)
    have KX := hidIt hB
    clear hB
    by_cases hin : i < n
    · have hin' : (i : Int) < (n : Int) := by omega
      obtain ⟨b1, o1, rfl, c0⟩ := RA.out.cell i (by rw [HN.out]; omega)
      obtain ⟨b2, o2, rfl, d0⟩ := RB.out.cell i (by rw [HN.out]; omega)
      generalize sat L i = s at c0 d0
      clear RA RB HA HB
      go_wp2_with (fail)
      go_quiet (fail)
      go_wp2_with (fail)
      exact ⟨⟨i + 1, by simp, by omega, Go.Proofs.Ytdbldhcelbllgaa.Below.drewN KX.out _⟩, by simp [intOf]; omega⟩
    · have hin' : ¬ (i : Int) < (n : Int) := by omega
      go_wp2_with (fail)
      go_ret
      exact ⟨rfl, KX.out⟩
set_option maxHeartbeats 1000000 in
theorem big_any (a : Option Addr) (len cap : Nat) (w : World) : Calls Try.prog 7 #[.slice a len cap] w fun e w' => e = .returned (.bool (decide (4096 < (len : Int)))) ∧ w' = w := by
  go_enter Try.func7, Try.ntmps7
  go_wp2
  go_ret
  exact ⟨by simp, rfl⟩
end Go.Proofs.Ytdbldhcelbllgaa.Nm
