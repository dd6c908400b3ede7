/-
  secretOk and timeOk of the program; the three shapes of a Roll; shapeOf, signerOf, RollOk, NewRoll and Signing of the program.
-/
import Derived.Test.YtllajhieocploaaRollS
import Derived.Handy
namespace Go.Proofs.Ytllajhieocploaa.Ro
open Go.ChangeShapes Go.WideShapes Go.ChangeAt Go.RowKit
set_option linter.unusedVariables false
theorem impl_secretOk (n : Int) (w : World) : Calls Try.prog 105 #[.int .i64 n] w fun e w' => e = .returned (.bool (secB n)) ∧ w' = w := by
  have e2 : decide (n < 2549) = decide (n ≤ 2548) := decide_eq_decide.2 (by omega)
  unfold secB inB
  by_cases h : 1 ≤ n
  · have h' : decide (1 ≤ n) = true := decide_eq_true h
    have h'' : (0 : Int) < n := by omega
    rw [h', Bool.true_and]
    go_enter Try.func105, Try.ntmps105
    go_wp2
    go_ret
    first | exact ⟨rfl, rfl⟩ | exact ⟨by rw [← e2]; rfl, rfl⟩
  · have h' : decide (1 ≤ n) = false := decide_eq_false h
    have h'' : ¬ (0 : Int) < n := by omega
    rw [h', Bool.false_and]
    go_enter Try.func105, Try.ntmps105
    go_wp2
    go_ret
    exact ⟨rfl, rfl⟩
theorem impl_timeOk (n : Int) (w : World) : Calls Try.prog 106 #[.int .i64 n] w fun e w' => e = .returned (.bool (timB n)) ∧ w' = w := by
  have e2 : decide (n ≤ 1000000) = decide (n ≤ 1000000) := decide_eq_decide.2 (by omega)
  unfold timB inB
  by_cases h : 0 ≤ n
  · have h' : decide (0 ≤ n) = true := decide_eq_true h
    have h'' : (0 : Int) ≤ n := by omega
    rw [h', Bool.true_and]
    go_enter Try.func106, Try.ntmps106
    go_wp2
    go_ret
    first | exact ⟨rfl, rfl⟩ | exact ⟨by rw [← e2]; rfl, rfl⟩
  · have h' : decide (0 ≤ n) = false := decide_eq_false h
    have h'' : ¬ (0 : Int) ≤ n := by omega
    rw [h', Bool.false_and]
    go_enter Try.func106, Try.ntmps106
    go_wp2
    go_ret
    exact ⟨rfl, rfl⟩
abbrev stV (m o a : Int) : Value := .iface 136 (.agg #[.int .i64 m, .int .i64 o, .int .i64 a])
abbrev rdV (m o n a : Int) : Value := .iface 138 (.agg #[.int .i64 m, .int .i64 o, .int .i64 n, .int .i64 a])
abbrev mvV (m o n a : Int) : Value := .iface 139 (.agg #[.int .i64 m, .int .i64 o, .int .i64 n, .int .i64 a])
def shV (p m o n a : Int) : Value := if rollOk p m o n a = false then .nilIface else if p = 1 then stV m o a else if p = 2 then rdV m o n a else mvV m o n a
set_option maxRecDepth 100000 in
set_option maxHeartbeats 8000000 in
theorem impl_shapeOf (p m o n a : Int) (w : World) : Calls Try.prog 89 #[rv p m o n a] w fun e w' => e = .returned (shV p m o n a) ∧ w' = w.alloc (rbox p m o n a 38) := by
  have S0 := hidIt (fun W => impl_secretOk m W)
  have S1 := hidIt (fun W => impl_secretOk o W)
  have S2 := hidIt (fun W => impl_secretOk n W)
  have T0 := hidIt (fun W => impl_timeOk a W)
  cases hm : secB m with
  | false =>
    rw [hm] at S0
    have e : shV p m o n a = .nilIface := by simp [shV, rollOk, rollB, hm]
    rw [e]
    clear e
    go_enter Try.func89, Try.ntmps89
    go_wp2_with (fail)
    refine (S0.out _).mono ?_
    rintro e w1 ⟨rfl, rfl⟩
    go_wp2_with (fail)
    go_ret
    exact ⟨rfl, rfl⟩
  | true =>
    rw [hm] at S0
    cases ho : secB o with
    | false =>
      rw [ho] at S1
      have e : shV p m o n a = .nilIface := by simp [shV, rollOk, rollB, hm, ho]
      rw [e]
      clear e
      go_enter Try.func89, Try.ntmps89
      go_wp2_with (fail)
      refine (S0.out _).mono ?_
      rintro e w1 ⟨rfl, rfl⟩
      go_wp2_with (fail)
      refine (S1.out _).mono ?_
      rintro e w1 ⟨rfl, rfl⟩
      go_wp2_with (fail)
      go_ret
      exact ⟨rfl, rfl⟩
    | true =>
      rw [ho] at S1
      cases ha : timB a with
      | false =>
        rw [ha] at T0
        have e : shV p m o n a = .nilIface := by simp [shV, rollOk, rollB, hm, ho, ha]
        rw [e]
        clear e
        go_enter Try.func89, Try.ntmps89
        go_wp2_with (fail)
        refine (S0.out _).mono ?_
        rintro e w1 ⟨rfl, rfl⟩
        go_wp2_with (fail)
        refine (S1.out _).mono ?_
        rintro e w1 ⟨rfl, rfl⟩
        go_wp2_with (fail)
        refine (T0.out _).mono ?_
        rintro e w1 ⟨rfl, rfl⟩
        go_wp2_with (fail)
        go_ret
        exact ⟨rfl, rfl⟩
      | true =>
        rw [ha] at T0
        by_cases h1 : p = 1
        · subst h1
          by_cases h0 : n = 0
          · subst h0
            have e : shV 1 m o 0 a = stV m o a := by simp [shV, rollOk, rollB, hm, ho, ha]
            rw [e]
            clear e
            go_enter Try.func89, Try.ntmps89
            go_wp2_with (fail)
            refine (S0.out _).mono ?_
            rintro e w1 ⟨rfl, rfl⟩
            go_wp2_with (fail)
            refine (S1.out _).mono ?_
            rintro e w1 ⟨rfl, rfl⟩
            go_wp2_with (fail)
            refine (T0.out _).mono ?_
            rintro e w1 ⟨rfl, rfl⟩
            go_wp2_with (fail)
            go_ret
            exact ⟨rfl, rfl⟩
          · have h0b : (n == 0) = false := by simpa using h0
            have e : shV 1 m o n a = .nilIface := by simp [shV, rollOk, rollB, hm, ho, ha, h0b]
            rw [e]
            clear e
            go_enter Try.func89, Try.ntmps89
            go_wp2_with (fail)
            refine (S0.out _).mono ?_
            rintro e w1 ⟨rfl, rfl⟩
            go_wp2_with (fail)
            refine (S1.out _).mono ?_
            rintro e w1 ⟨rfl, rfl⟩
            go_wp2_with (fail)
            refine (T0.out _).mono ?_
            rintro e w1 ⟨rfl, rfl⟩
            go_wp2_with (fail)
            go_ret
            exact ⟨rfl, rfl⟩
        · have h1b : (p == 1) = false := by simpa using h1
          by_cases h2 : p = 2
          · subst h2
            cases hn : secB n with
            | true =>
              rw [hn] at S2
              have e : shV 2 m o n a = rdV m o n a := by simp [shV, rollOk, rollB, hm, ho, ha, hn, inB]
              rw [e]
              clear e
              go_enter Try.func89, Try.ntmps89
              go_wp2_with (fail)
              refine (S0.out _).mono ?_
              rintro e w1 ⟨rfl, rfl⟩
              go_wp2_with (fail)
              refine (S1.out _).mono ?_
              rintro e w1 ⟨rfl, rfl⟩
              go_wp2_with (fail)
              refine (T0.out _).mono ?_
              rintro e w1 ⟨rfl, rfl⟩
              go_wp2_with (fail)
              refine (S2.out _).mono ?_
              rintro e w1 ⟨rfl, rfl⟩
              go_wp2_with (fail)
              go_ret
              exact ⟨rfl, rfl⟩
            | false =>
              rw [hn] at S2
              have e : shV 2 m o n a = .nilIface := by simp [shV, rollOk, rollB, hm, ho, ha, hn]
              rw [e]
              clear e
              go_enter Try.func89, Try.ntmps89
              go_wp2_with (fail)
              refine (S0.out _).mono ?_
              rintro e w1 ⟨rfl, rfl⟩
              go_wp2_with (fail)
              refine (S1.out _).mono ?_
              rintro e w1 ⟨rfl, rfl⟩
              go_wp2_with (fail)
              refine (T0.out _).mono ?_
              rintro e w1 ⟨rfl, rfl⟩
              go_wp2_with (fail)
              refine (S2.out _).mono ?_
              rintro e w1 ⟨rfl, rfl⟩
              go_wp2_with (fail)
              go_ret
              exact ⟨rfl, rfl⟩
          · have h2b : (p == 2) = false := by simpa using h2
            by_cases h3 : p = 3
            · subst h3
              cases hn : secB n with
              | true =>
                rw [hn] at S2
                have e : shV 3 m o n a = mvV m o n a := by simp [shV, rollOk, rollB, hm, ho, ha, hn, inB]
                rw [e]
                clear e
                go_enter Try.func89, Try.ntmps89
                go_wp2_with (fail)
                refine (S0.out _).mono ?_
                rintro e w1 ⟨rfl, rfl⟩
                go_wp2_with (fail)
                refine (S1.out _).mono ?_
                rintro e w1 ⟨rfl, rfl⟩
                go_wp2_with (fail)
                refine (T0.out _).mono ?_
                rintro e w1 ⟨rfl, rfl⟩
                go_wp2_with (fail)
                refine (S2.out _).mono ?_
                rintro e w1 ⟨rfl, rfl⟩
                go_wp2_with (fail)
                go_ret
                exact ⟨rfl, rfl⟩
              | false =>
                rw [hn] at S2
                have e : shV 3 m o n a = .nilIface := by simp [shV, rollOk, rollB, hm, ho, ha, hn]
                rw [e]
                clear e
                go_enter Try.func89, Try.ntmps89
                go_wp2_with (fail)
                refine (S0.out _).mono ?_
                rintro e w1 ⟨rfl, rfl⟩
                go_wp2_with (fail)
                refine (S1.out _).mono ?_
                rintro e w1 ⟨rfl, rfl⟩
                go_wp2_with (fail)
                refine (T0.out _).mono ?_
                rintro e w1 ⟨rfl, rfl⟩
                go_wp2_with (fail)
                refine (S2.out _).mono ?_
                rintro e w1 ⟨rfl, rfl⟩
                go_wp2_with (fail)
                go_ret
                exact ⟨rfl, rfl⟩
            · have h3b : (p == 3) = false := by simpa using h3
              have hph : inB p 2 3 = false := by
                unfold inB
                cases h : decide (2 ≤ p) <;> cases h' : decide (p ≤ 3) <;> simp_all <;> omega
              have e : shV p m o n a = .nilIface := by simp [shV, rollOk, rollB, hm, ho, ha, h1, hph]
              rw [e]
              clear e
              go_enter Try.func89, Try.ntmps89
              go_wp2_with (fail)
              refine (S0.out _).mono ?_
              rintro e w1 ⟨rfl, rfl⟩
              go_wp2_with (fail)
              refine (S1.out _).mono ?_
              rintro e w1 ⟨rfl, rfl⟩
              go_wp2_with (fail)
              refine (T0.out _).mono ?_
              rintro e w1 ⟨rfl, rfl⟩
              go_wp2_with (fail)
              go_ret
              exact ⟨rfl, rfl⟩
end Go.Proofs.Ytllajhieocploaa.Ro
