/-
  due, stepped and Step of the program.
-/
import Derived.Test.YteclbfgkeoiclaaRollK
namespace Go.Proofs.Yteclbfgkeoiclaa.Ro
open Go.ChangeShapes Go.WideShapes Go.ChangeAt Go.RowKit
set_option linter.unusedVariables false
theorem tim_of {a : Int} (h : timB a = true) : 0 ≤ a ∧ a ≤ 1000000 := by
  unfold timB inB at h
  simpa only [Bool.and_eq_true, decide_eq_true_eq] using h
attribute [local go_sem] as_st_nil as_st_st as_st_rd as_st_mv as_rd_nil as_rd_st as_rd_rd as_rd_mv as_mv_nil as_mv_st as_mv_rd as_mv_mv
set_option maxHeartbeats 2000000 in
theorem impl_due (a now : Int) (h0 : 0 ≤ a) (h1 : a ≤ 1000000) (w : World) : Calls Try.prog 28 #[.int .i64 a, .int .i64 now] w fun e w' => e = .returned (.bool (timB now && decide (a + 100 ≤ now))) ∧ w' = w := by
  have T := hidIt (fun W => impl_timeOk now W)
  have q1 : -9223372036854775808 ≤ a + 100 := by omega
  have q2 : a + 100 ≤ 9223372036854775807 := by omega
  cases ht : timB now with
  | false =>
    rw [ht] at T
    go_enter Try.func28, Try.ntmps28
    go_wp2_with (fail)
    refine (T.out _).mono ?_
    rintro e w1 ⟨rfl, rfl⟩
    go_wp2_with (fail)
    go_ret
    exact ⟨rfl, rfl⟩
  | true =>
    rw [ht] at T
    go_enter Try.func28, Try.ntmps28
    go_wp2_with (fail)
    refine (T.out _).mono ?_
    rintro e w1 ⟨rfl, rfl⟩
    go_wp2_with (fail)
    go_ret
    exact ⟨rfl, rfl⟩
set_option maxRecDepth 100000 in
set_option maxHeartbeats 4000000 in
theorem stepped_st (m o a now fr : Int) (hs : secB fr = true) (ho : fr ≠ o) (hm : fr ≠ m) (w : World) : Calls Try.prog 29 #[stV m o a, .int .i64 now, .int .i64 fr] w fun e w' => e = .returned (rdV m o fr now) ∧ w' = w.alloc (.cells #[.int .i64 m, .int .i64 o, .int .i64 a] 66) := by
  have S := hidIt (fun W => impl_secretOk fr W)
  rw [hs] at S
  have ho' : (fr != o) = true := by simpa using ho
  have hm' : (fr != m) = true := by simpa using hm
  have ho2 : (fr == o) = false := by simpa using ho
  have hm2 : (fr == m) = false := by simpa using hm
  go_enter Try.func29, Try.ntmps29
  go_wp2_with (fail)
  refine (S.out _).mono ?_
  rintro e w1 ⟨rfl, rfl⟩
  go_wp2_with (fail)
  go_ret
  exact ⟨rfl, rfl⟩
set_option maxRecDepth 100000 in
set_option maxHeartbeats 4000000 in
theorem stepped_st1 (m o a now fr : Int) (hs : secB fr = false) (w : World) : Calls Try.prog 29 #[stV m o a, .int .i64 now, .int .i64 fr] w fun e w' => e = .returned (.nilIface) ∧ w' = w.alloc (.cells #[.int .i64 m, .int .i64 o, .int .i64 a] 66) := by
  have S := hidIt (fun W => impl_secretOk fr W)
  rw [hs] at S
  go_enter Try.func29, Try.ntmps29
  go_wp2_with (fail)
  refine (S.out _).mono ?_
  rintro e w1 ⟨rfl, rfl⟩
  go_wp2_with (fail)
  go_ret
  exact ⟨rfl, rfl⟩
set_option maxRecDepth 100000 in
set_option maxHeartbeats 4000000 in
theorem stepped_st2 (m o a now : Int) (hs : secB o = true) (w : World) : Calls Try.prog 29 #[stV m o a, .int .i64 now, .int .i64 o] w fun e w' => e = .returned (.nilIface) ∧ w' = w.alloc (.cells #[.int .i64 m, .int .i64 o, .int .i64 a] 66) := by
  have S := hidIt (fun W => impl_secretOk o W)
  rw [hs] at S
  have ho2 : (o != o) = false := by simp
  go_enter Try.func29, Try.ntmps29
  go_wp2_with (fail)
  refine (S.out _).mono ?_
  rintro e w1 ⟨rfl, rfl⟩
  go_wp2_with (fail)
  go_ret
  exact ⟨rfl, rfl⟩
set_option maxRecDepth 100000 in
set_option maxHeartbeats 4000000 in
theorem stepped_st3 (m o a now : Int) (hs : secB m = true) (ho : m ≠ o) (w : World) : Calls Try.prog 29 #[stV m o a, .int .i64 now, .int .i64 m] w fun e w' => e = .returned (.nilIface) ∧ w' = w.alloc (.cells #[.int .i64 m, .int .i64 o, .int .i64 a] 66) := by
  have S := hidIt (fun W => impl_secretOk m W)
  rw [hs] at S
  have ho' : (m != o) = true := by simpa using ho
  have hm2 : (m != m) = false := by simp
  have ho2 : (m == o) = false := by simpa using ho
  go_enter Try.func29, Try.ntmps29
  go_wp2_with (fail)
  refine (S.out _).mono ?_
  rintro e w1 ⟨rfl, rfl⟩
  go_wp2_with (fail)
  go_ret
  exact ⟨rfl, rfl⟩
set_option maxRecDepth 100000 in
set_option maxHeartbeats 4000000 in
theorem stepped_rd (m o n a now fr : Int) (w : World) : Calls Try.prog 29 #[rdV m o n a, .int .i64 now, .int .i64 fr] w fun e w' => e = .returned (mvV m o n now) ∧ w' = w.alloc (.cells #[.int .i64 m, .int .i64 o, .int .i64 n, .int .i64 a] 68) := by
  go_enter Try.func29, Try.ntmps29
  go_wp2_with (fail)
  go_ret
  exact ⟨rfl, rfl⟩
set_option maxRecDepth 100000 in
set_option maxHeartbeats 4000000 in
theorem stepped_mv (m o n a now fr : Int) (w : World) : Calls Try.prog 29 #[mvV m o n a, .int .i64 now, .int .i64 fr] w fun e w' => e = .returned (stV m n now) ∧ w' = w.alloc (.cells #[.int .i64 m, .int .i64 o, .int .i64 n, .int .i64 a] 69) := by
  go_enter Try.func29, Try.ntmps29
  go_wp2_with (fail)
  go_ret
  exact ⟨rfl, rfl⟩
set_option maxRecDepth 100000 in
set_option maxHeartbeats 4000000 in
theorem roll_st (m o a : Int) (w : World) : Calls Try.prog 78 #[.agg #[.int .i64 m, .int .i64 o, .int .i64 a]] w fun e w' => e = .returned (rv 1 m o 0 a) ∧ w' = (w.alloc (.cells #[.int .i64 m, .int .i64 o, .int .i64 a] 66)).alloc (rbox 1 m o 0 a 25) := by
  go_enter Try.func78, Try.ntmps78
  go_wp2_with (fail)
  refine bodyPost_ret (v := rv 1 m o 0 a) (by simp [results, Try.results78, go_sem]) rfl ⟨rfl, rfl⟩
set_option maxRecDepth 100000 in
set_option maxHeartbeats 4000000 in
theorem roll_rd (m o n a : Int) (w : World) : Calls Try.prog 79 #[.agg #[.int .i64 m, .int .i64 o, .int .i64 n, .int .i64 a]] w fun e w' => e = .returned (rv 2 m o n a) ∧ w' = (w.alloc (.cells #[.int .i64 m, .int .i64 o, .int .i64 n, .int .i64 a] 68)).alloc (rbox 2 m o n a 25) := by
  go_enter Try.func79, Try.ntmps79
  go_wp2_with (fail)
  refine bodyPost_ret (v := rv 2 m o n a) (by simp [results, Try.results79, go_sem]) rfl ⟨rfl, rfl⟩
set_option maxRecDepth 100000 in
set_option maxHeartbeats 4000000 in
theorem roll_mv (m o n a : Int) (w : World) : Calls Try.prog 80 #[.agg #[.int .i64 m, .int .i64 o, .int .i64 n, .int .i64 a]] w fun e w' => e = .returned (rv 3 m o n a) ∧ w' = (w.alloc (.cells #[.int .i64 m, .int .i64 o, .int .i64 n, .int .i64 a] 69)).alloc (rbox 3 m o n a 25) := by
  go_enter Try.func80, Try.ntmps80
  go_wp2_with (fail)
  refine bodyPost_ret (v := rv 3 m o n a) (by simp [results, Try.results80, go_sem]) rfl ⟨rfl, rfl⟩
set_option maxRecDepth 100000 in
set_option maxHeartbeats 8000000 in
theorem impl_Step (p m o n a now fr : Int) (w : World) : Calls Try.prog 6 #[rv p m o n a, .int .i64 now, .int .i64 fr] w fun e w' => e = .returned (.tuple #[rvt (stepR p m o n a now fr).1, .bool (stepR p m o n a now fr).2]) ∧ Below w.heap.size w w' := by
  have C := hidIt (fun W => impl_shapeOf p m o n a W)
  cases hr : rollOk p m o n a with
  | false =>
    rw [show shV p m o n a = .nilIface by simp [shV, hr]] at C
    have e : stepR p m o n a now fr = ((0, 0, 0, 0, 0), false) := by simp [stepR, *]
    rw [e]
    clear e
    go_enter Try.func6, Try.ntmps6
    go_wp2_with (fail)
    refine (C.out _).mono ?_
    rintro e w1 ⟨rfl, rfl⟩
    go_wp2_with (fail)
    refine bodyPost_ret (v := .tuple #[rv 0 0 0 0 0, .bool false]) (by simp [results, Try.results6, go_sem]) rfl ⟨rfl, ?_⟩
    go_grown
  | true =>
    obtain ⟨ha0, ha1⟩ := roll_time hr
    have T := hidIt (fun W => impl_due a now ha0 ha1 W)
    by_cases hd : timB now = false ∨ now < a + 100
    · have hd' : (timB now && decide (a + 100 ≤ now)) = false := by
        rcases hd with h | h
        · rw [h]; rfl
        · rw [decide_eq_false (by omega), Bool.and_false]
      rw [hd'] at T
      rcases shV_cases p m o n a with ⟨e1, e2⟩ | ⟨e1, u, v, e2⟩
      · rw [hr] at e1
        exact absurd e1 (by decide)
      rw [e2] at C
      clear e1 e2
      have e : stepR p m o n a now fr = ((p, m, o, n, a), false) := by simp [stepR, hr, hd]
      rw [e]
      clear e hd hd' ha0 ha1
      go_enter Try.func6, Try.ntmps6
      go_wp2_with (fail)
      refine (C.out _).mono ?_
      rintro e w1 ⟨rfl, rfl⟩
      go_wp2_with (fail)
      refine (T.out _).mono ?_
      rintro e w1 ⟨rfl, rfl⟩
      go_wp2_with (fail)
      refine bodyPost_ret (v := .tuple #[rv p m o n a, .bool false]) (by simp [results, Try.results6, go_sem]) rfl ⟨rfl, ?_⟩
      go_grown
    · have hd' : (timB now && decide (a + 100 ≤ now)) = true := by
        cases h : timB now with
        | false => exact absurd (.inl h) hd
        | true => rw [decide_eq_true (by by_cases h' : now < a + 100; exact absurd (.inr h') hd; omega)]; rfl
      rw [hd'] at T
      rcases roll_phase hr with h | h | h
      · subst h
        rw [show shV 1 m o n a = stV m o a by simp [shV, hr]] at C
        have hn : n = 0 := by
          by_cases h : n = 0
          · exact h
          · have h' : (n == 0) = false := by simpa using h
            simp [rollOk, rollB, h'] at hr
        cases hs : secB fr with
        | false =>
          have S := hidIt (fun W => stepped_st1 m o a now fr hs W)
          have e : stepR 1 m o n a now fr = ((1, m, o, n, a), false) := by simp [stepR, hr, hd, hs]
          rw [e]
          clear e hd hd' ha0 ha1 hr hs hn
          go_enter Try.func6, Try.ntmps6
          go_wp2_with (fail)
          refine (C.out _).mono ?_
          rintro e w1 ⟨rfl, rfl⟩
          go_wp2_with (fail)
          refine (T.out _).mono ?_
          rintro e w1 ⟨rfl, rfl⟩
          go_wp2_with (fail)
          refine (S.out _).mono ?_
          rintro e w1 ⟨rfl, rfl⟩
          go_wp2_with (fail)
          refine bodyPost_ret (v := .tuple #[rv 1 m o n a, .bool false]) (by simp [results, Try.results6, go_sem]) rfl ⟨rfl, ?_⟩
          go_grown
        | true =>
          by_cases ho : fr = o
          · subst ho
            have S := hidIt (fun W => stepped_st2 m fr a now hs W)
            have e : stepR 1 m fr n a now fr = ((1, m, fr, n, a), false) := by simp [stepR, hr, hd]
            rw [e]
            clear e hd hd' ha0 ha1 hr hs hn
            go_enter Try.func6, Try.ntmps6
            go_wp2_with (fail)
            refine (C.out _).mono ?_
            rintro e w1 ⟨rfl, rfl⟩
            go_wp2_with (fail)
            refine (T.out _).mono ?_
            rintro e w1 ⟨rfl, rfl⟩
            go_wp2_with (fail)
            refine (S.out _).mono ?_
            rintro e w1 ⟨rfl, rfl⟩
            go_wp2_with (fail)
            refine bodyPost_ret (v := .tuple #[rv 1 m fr n a, .bool false]) (by simp [results, Try.results6, go_sem]) rfl ⟨rfl, ?_⟩
            go_grown
          · by_cases hm : fr = m
            · subst hm
              have S := hidIt (fun W => stepped_st3 fr o a now hs ho W)
              have e : stepR 1 fr o n a now fr = ((1, fr, o, n, a), false) := by simp [stepR, hr, hd]
              rw [e]
              clear e hd hd' ha0 ha1 hr hs hn ho
              go_enter Try.func6, Try.ntmps6
              go_wp2_with (fail)
              refine (C.out _).mono ?_
              rintro e w1 ⟨rfl, rfl⟩
              go_wp2_with (fail)
              refine (T.out _).mono ?_
              rintro e w1 ⟨rfl, rfl⟩
              go_wp2_with (fail)
              refine (S.out _).mono ?_
              rintro e w1 ⟨rfl, rfl⟩
              go_wp2_with (fail)
              refine bodyPost_ret (v := .tuple #[rv 1 fr o n a, .bool false]) (by simp [results, Try.results6, go_sem]) rfl ⟨rfl, ?_⟩
              go_grown
            · have S := hidIt (fun W => stepped_st m o a now fr hs ho hm W)
              have R := hidIt (fun W => roll_rd m o fr now W)
              have e : stepR 1 m o n a now fr = ((2, m, o, fr, now), true) := by simp [stepR, hr, hd, hs, ho, hm]
              rw [e]
              clear e hd hd' ha0 ha1 hr hs hn ho hm
              go_enter Try.func6, Try.ntmps6
              go_wp2_with (fail)
              refine (C.out _).mono ?_
              rintro e w1 ⟨rfl, rfl⟩
              go_wp2_with (fail)
              refine (T.out _).mono ?_
              rintro e w1 ⟨rfl, rfl⟩
              go_wp2_with (fail)
              refine (S.out _).mono ?_
              rintro e w1 ⟨rfl, rfl⟩
              go_wp2_with (fail)
              refine (R.out _).mono ?_
              rintro e w1 ⟨rfl, rfl⟩
              go_wp2_with (fail)
              refine bodyPost_ret (v := .tuple #[rv 2 m o fr now, .bool true]) (by simp [results, Try.results6, go_sem]) rfl ⟨rfl, ?_⟩
              go_grown
      · subst h
        rw [show shV 2 m o n a = rdV m o n a by simp [shV, hr]] at C
        have S := hidIt (fun W => stepped_rd m o n a now fr W)
        have R := hidIt (fun W => roll_mv m o n now W)
        have e : stepR 2 m o n a now fr = ((3, m, o, n, now), true) := by simp [stepR, hr, hd]
        rw [e]
        clear e hd hd' ha0 ha1 hr
        go_enter Try.func6, Try.ntmps6
        go_wp2_with (fail)
        refine (C.out _).mono ?_
        rintro e w1 ⟨rfl, rfl⟩
        go_wp2_with (fail)
        refine (T.out _).mono ?_
        rintro e w1 ⟨rfl, rfl⟩
        go_wp2_with (fail)
        refine (S.out _).mono ?_
        rintro e w1 ⟨rfl, rfl⟩
        go_wp2_with (fail)
        refine (R.out _).mono ?_
        rintro e w1 ⟨rfl, rfl⟩
        go_wp2_with (fail)
        refine bodyPost_ret (v := .tuple #[rv 3 m o n now, .bool true]) (by simp [results, Try.results6, go_sem]) rfl ⟨rfl, ?_⟩
        go_grown
      · subst h
        rw [show shV 3 m o n a = mvV m o n a by simp [shV, hr]] at C
        have S := hidIt (fun W => stepped_mv m o n a now fr W)
        have R := hidIt (fun W => roll_st m n now W)
        have e : stepR 3 m o n a now fr = ((1, m, n, 0, now), true) := by simp [stepR, hr, hd]
        rw [e]
        clear e hd hd' ha0 ha1 hr
        go_enter Try.func6, Try.ntmps6
        go_wp2_with (fail)
        refine (C.out _).mono ?_
        rintro e w1 ⟨rfl, rfl⟩
        go_wp2_with (fail)
        refine (T.out _).mono ?_
        rintro e w1 ⟨rfl, rfl⟩
        go_wp2_with (fail)
        refine (S.out _).mono ?_
        rintro e w1 ⟨rfl, rfl⟩
        go_wp2_with (fail)
        refine (R.out _).mono ?_
        rintro e w1 ⟨rfl, rfl⟩
        go_wp2_with (fail)
        refine bodyPost_ret (v := .tuple #[rv 1 m n 0 now, .bool true]) (by simp [results, Try.results6, go_sem]) rfl ⟨rfl, ?_⟩
        go_grown
end Go.Proofs.Yteclbfgkeoiclaa.Ro
