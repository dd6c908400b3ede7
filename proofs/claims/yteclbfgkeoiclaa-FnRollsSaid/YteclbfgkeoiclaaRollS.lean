/-
  NewRoll, Step and Signing of the specification, in plain words.
-/
import Derived.Test.YteclbfgkeoiclaaRollM
namespace Go.Proofs.Yteclbfgkeoiclaa.Ro
open Go.ChangeShapes Go.WideShapes Go.ChangeAt Go.RowKit
set_option linter.unusedVariables false
abbrev R5 := Int × Int × Int × Int × Int
abbrev rvt (x : R5) : Value := rv x.1 x.2.1 x.2.2.1 x.2.2.2.1 x.2.2.2.2
def newR (m o a : Int) : R5 × Bool := if rollOk 1 m o 0 a = true then ((1, m, o, 0, a), true) else ((0, 0, 0, 0, 0), false)
def stepR (p m o n a now fr : Int) : R5 × Bool :=
  if rollOk p m o n a = false then ((0, 0, 0, 0, 0), false)
  else if timB now = false ∨ now < a + 100 then ((p, m, o, n, a), false)
  else if p = 1 then (if secB fr = false ∨ fr = o ∨ fr = m then ((p, m, o, n, a), false) else ((2, m, o, fr, now), true))
  else if p = 2 then ((3, m, o, n, now), true)
  else ((1, m, n, 0, now), true)
def signR (p m o n a : Int) : Int := if rollOk p m o n a = false then 0 else if p = 3 then n else o
theorem roll_time {p m o n a : Int} (h : rollOk p m o n a = true) : 0 ≤ a ∧ a ≤ 1000000 := by
  unfold rollOk rollB timB inB at h
  simp only [Bool.and_eq_true, decide_eq_true_eq] at h
  exact h.2.2.1
set_option maxRecDepth 100000 in
set_option maxHeartbeats 4000000 in
theorem spec_NewRoll (m o a : Int) (w : World) : Calls Try.prog 18 #[.int .i64 m, .int .i64 o, .int .i64 a] w fun e w' => e = .returned (.tuple #[rvt (newR m o a).1, .bool (newR m o a).2]) ∧ Below w.heap.size w w' := by
  have C := hidIt (fun W => spec_RollOk 1 m o 0 a W)
  cases hr : rollOk 1 m o 0 a with
  | false =>
    have e : newR m o a = ((0, 0, 0, 0, 0), false) := by simp [newR, hr]
    rw [e]
    rw [hr] at C
    go_enter Try.func18, Try.ntmps18
    go_wp2_with (fail)
    refine (C.out _).mono ?_
    rintro e w1 ⟨rfl, rfl⟩
    go_wp2_with (fail)
    refine bodyPost_ret (v := .tuple #[rv 0 0 0 0 0, .bool false]) (by simp [results, Try.results18, go_sem]) rfl ⟨rfl, ?_⟩
    exact (((Below.refl w.heap.size w).alloc (Nat.le_refl _) _).alloc (by simp) _).alloc (by simp; omega) _
  | true =>
    have e : newR m o a = ((1, m, o, 0, a), true) := by simp [newR, hr]
    rw [e]
    rw [hr] at C
    go_enter Try.func18, Try.ntmps18
    go_wp2_with (fail)
    refine (C.out _).mono ?_
    rintro e w1 ⟨rfl, rfl⟩
    go_wp2_with (fail)
    refine bodyPost_ret (v := .tuple #[rv 1 m o 0 a, .bool true]) (by simp [results, Try.results18, go_sem]) rfl ⟨rfl, ?_⟩
    exact ((((Below.refl w.heap.size w).alloc (Nat.le_refl _) _).alloc (by simp) _).alloc (by simp; omega) _)
set_option maxRecDepth 100000 in
set_option maxHeartbeats 4000000 in
theorem spec_Signing (p m o n a : Int) (w : World) : Calls Try.prog 17 #[rv p m o n a] w fun e w' => e = .returned (.int .i64 (signR p m o n a)) ∧ Below w.heap.size w w' := by
  have C := hidIt (fun W => spec_RollOk p m o n a W)
  cases hr : rollOk p m o n a with
  | false =>
    have e : signR p m o n a = 0 := by simp [signR, hr]
    rw [e]
    rw [hr] at C
    go_enter Try.func17, Try.ntmps17
    go_wp2_with (fail)
    refine (C.out _).mono ?_
    rintro e w1 ⟨rfl, rfl⟩
    go_wp2_with (fail)
    go_ret
    exact ⟨rfl, ((Below.refl w.heap.size w).alloc (Nat.le_refl _) _).alloc (by simp) _⟩
  | true =>
    rw [hr] at C
    by_cases h3 : p = 3
    · subst h3
      have e : signR 3 m o n a = n := by simp [signR, hr]
      rw [e]
      go_enter Try.func17, Try.ntmps17
      go_wp2_with (fail)
      refine (C.out _).mono ?_
      rintro e w1 ⟨rfl, rfl⟩
      go_wp2_with (fail)
      go_ret
      exact ⟨rfl, ((Below.refl w.heap.size w).alloc (Nat.le_refl _) _).alloc (by simp) _⟩
    · have e : signR p m o n a = o := by simp [signR, hr, h3]
      rw [e]
      have h3b : (p == 3) = false := by simpa using h3
      go_enter Try.func17, Try.ntmps17
      go_wp2_with (fail)
      refine (C.out _).mono ?_
      rintro e w1 ⟨rfl, rfl⟩
      go_wp2_with (fail)
      go_ret
      exact ⟨rfl, ((Below.refl w.heap.size w).alloc (Nat.le_refl _) _).alloc (by simp) _⟩
set_option maxRecDepth 100000 in
set_option maxHeartbeats 8000000 in
theorem spec_Step (p m o n a now fr : Int) (w : World) : Calls Try.prog 10 #[rv p m o n a, .int .i64 now, .int .i64 fr] w fun e w' => e = .returned (.tuple #[rvt (stepR p m o n a now fr).1, .bool (stepR p m o n a now fr).2]) ∧ Below w.heap.size w w' := by
  have C := hidIt (fun W => spec_RollOk p m o n a W)
  have T := hidIt (fun W => spec_l9Time now W)
  have S := hidIt (fun W => spec_l3Secret fr W)
  cases hr : rollOk p m o n a with
  | false =>
    rw [hr] at C
    have e : stepR p m o n a now fr = ((0, 0, 0, 0, 0), false) := by simp [stepR, *]
    rw [e]
    go_enter Try.func10, Try.ntmps10
    go_wp2_with (fail)
    refine (C.out _).mono ?_
    rintro e w1 ⟨rfl, rfl⟩
    go_wp2_with (fail)
    refine bodyPost_ret (v := .tuple #[rv 0 0 0 0 0, .bool false]) (by simp [results, Try.results10, go_sem]) rfl ⟨rfl, ?_⟩
    first
      | exact (((Below.refl w.heap.size w).alloc (Nat.le_refl _) _).alloc (by simp) _).alloc (by simp; omega) _
      | exact ((((Below.refl w.heap.size w).alloc (Nat.le_refl _) _).alloc (by simp) _).alloc (by simp; omega) _).alloc (by simp; omega) _
  | true =>
    rw [hr] at C
    obtain ⟨ha0, ha1⟩ := roll_time hr
    cases ht : timB now with
    | false =>
      rw [ht] at T
      have e : stepR p m o n a now fr = ((p, m, o, n, a), false) := by simp [stepR, *]
      rw [e]
      go_enter Try.func10, Try.ntmps10
      go_wp2_with (fail)
      refine (C.out _).mono ?_
      rintro e w1 ⟨rfl, rfl⟩
      go_wp2_with (fail)
      refine (T.out _).mono ?_
      rintro e w2 ⟨rfl, rfl⟩
      go_wp2_with (fail)
      refine bodyPost_ret (v := .tuple #[rv p m o n a, .bool false]) (by simp [results, Try.results10, go_sem]) rfl ⟨rfl, ?_⟩
      first
        | exact (((Below.refl w.heap.size w).alloc (Nat.le_refl _) _).alloc (by simp) _).alloc (by simp; omega) _
        | exact ((((Below.refl w.heap.size w).alloc (Nat.le_refl _) _).alloc (by simp) _).alloc (by simp; omega) _).alloc (by simp; omega) _
    | true =>
      rw [ht] at T
      by_cases hl : now < a + 100
      · have hl' : decide (now < a + 100) = true := decide_eq_true hl
        have e : stepR p m o n a now fr = ((p, m, o, n, a), false) := by simp [stepR, *]
        rw [e]
        go_enter Try.func10, Try.ntmps10
        go_wp2_with (fail)
        refine (C.out _).mono ?_
        rintro e w1 ⟨rfl, rfl⟩
        go_wp2_with (fail)
        refine (T.out _).mono ?_
        rintro e w2 ⟨rfl, rfl⟩
        go_wp2_with (fail)
        refine bodyPost_ret (v := .tuple #[rv p m o n a, .bool false]) (by simp [results, Try.results10, go_sem]) rfl ⟨rfl, ?_⟩
        first
          | exact (((Below.refl w.heap.size w).alloc (Nat.le_refl _) _).alloc (by simp) _).alloc (by simp; omega) _
          | exact ((((Below.refl w.heap.size w).alloc (Nat.le_refl _) _).alloc (by simp) _).alloc (by simp; omega) _).alloc (by simp; omega) _
      · have hl' : decide (now < a + 100) = false := decide_eq_false hl
        by_cases h1 : p = 1
        · subst h1
          cases hs : secB fr with
          | false =>
            rw [hs] at S
            have e : stepR 1 m o n a now fr = ((1, m, o, n, a), false) := by simp [stepR, *]
            rw [e]
            go_enter Try.func10, Try.ntmps10
            go_wp2_with (fail)
            refine (C.out _).mono ?_
            rintro e w1 ⟨rfl, rfl⟩
            go_wp2_with (fail)
            refine (T.out _).mono ?_
            rintro e w2 ⟨rfl, rfl⟩
            go_wp2_with (fail)
            refine (S.out _).mono ?_
            rintro e w3 ⟨rfl, rfl⟩
            go_wp2_with (fail)
            refine bodyPost_ret (v := .tuple #[rv 1 m o n a, .bool false]) (by simp [results, Try.results10, go_sem]) rfl ⟨rfl, ?_⟩
            first
              | exact (((Below.refl w.heap.size w).alloc (Nat.le_refl _) _).alloc (by simp) _).alloc (by simp; omega) _
              | exact ((((Below.refl w.heap.size w).alloc (Nat.le_refl _) _).alloc (by simp) _).alloc (by simp; omega) _).alloc (by simp; omega) _
          | true =>
            rw [hs] at S
            by_cases ho : fr = o
            · subst ho
              have e : stepR 1 m fr n a now fr = ((1, m, fr, n, a), false) := by simp [stepR, *]
              rw [e]
              go_enter Try.func10, Try.ntmps10
              go_wp2_with (fail)
              refine (C.out _).mono ?_
              rintro e w1 ⟨rfl, rfl⟩
              go_wp2_with (fail)
              refine (T.out _).mono ?_
              rintro e w2 ⟨rfl, rfl⟩
              go_wp2_with (fail)
              refine (S.out _).mono ?_
              rintro e w3 ⟨rfl, rfl⟩
              go_wp2_with (fail)
              refine bodyPost_ret (v := .tuple #[rv 1 m fr n a, .bool false]) (by simp [results, Try.results10, go_sem]) rfl ⟨rfl, ?_⟩
              first
                | exact (((Below.refl w.heap.size w).alloc (Nat.le_refl _) _).alloc (by simp) _).alloc (by simp; omega) _
                | exact ((((Below.refl w.heap.size w).alloc (Nat.le_refl _) _).alloc (by simp) _).alloc (by simp; omega) _).alloc (by simp; omega) _
            · have ho' : (fr == o) = false := by simpa using ho
              by_cases hm : fr = m
              · subst hm
                have e : stepR 1 fr o n a now fr = ((1, fr, o, n, a), false) := by simp [stepR, *]
                rw [e]
                go_enter Try.func10, Try.ntmps10
                go_wp2_with (fail)
                refine (C.out _).mono ?_
                rintro e w1 ⟨rfl, rfl⟩
                go_wp2_with (fail)
                refine (T.out _).mono ?_
                rintro e w2 ⟨rfl, rfl⟩
                go_wp2_with (fail)
                refine (S.out _).mono ?_
                rintro e w3 ⟨rfl, rfl⟩
                go_wp2_with (fail)
                refine bodyPost_ret (v := .tuple #[rv 1 fr o n a, .bool false]) (by simp [results, Try.results10, go_sem]) rfl ⟨rfl, ?_⟩
                first
                  | exact (((Below.refl w.heap.size w).alloc (Nat.le_refl _) _).alloc (by simp) _).alloc (by simp; omega) _
                  | exact ((((Below.refl w.heap.size w).alloc (Nat.le_refl _) _).alloc (by simp) _).alloc (by simp; omega) _).alloc (by simp; omega) _
              · have hm' : (fr == m) = false := by simpa using hm
                have e : stepR 1 m o n a now fr = ((2, m, o, fr, now), true) := by simp [stepR, *]
                rw [e]
                go_enter Try.func10, Try.ntmps10
                go_wp2_with (fail)
                refine (C.out _).mono ?_
                rintro e w1 ⟨rfl, rfl⟩
                go_wp2_with (fail)
                refine (T.out _).mono ?_
                rintro e w2 ⟨rfl, rfl⟩
                go_wp2_with (fail)
                refine (S.out _).mono ?_
                rintro e w3 ⟨rfl, rfl⟩
                go_wp2_with (fail)
                refine bodyPost_ret (v := .tuple #[rv 2 m o fr now, .bool true]) (by simp [results, Try.results10, go_sem]) rfl ⟨rfl, ?_⟩
                first
                  | exact (((Below.refl w.heap.size w).alloc (Nat.le_refl _) _).alloc (by simp) _).alloc (by simp; omega) _
                  | exact ((((Below.refl w.heap.size w).alloc (Nat.le_refl _) _).alloc (by simp) _).alloc (by simp; omega) _).alloc (by simp; omega) _
        · have h1' : (p == 1) = false := by simpa using h1
          by_cases h2 : p = 2
          · subst h2
            have e : stepR 2 m o n a now fr = ((3, m, o, n, now), true) := by simp [stepR, *]
            rw [e]
            go_enter Try.func10, Try.ntmps10
            go_wp2_with (fail)
            refine (C.out _).mono ?_
            rintro e w1 ⟨rfl, rfl⟩
            go_wp2_with (fail)
            refine (T.out _).mono ?_
            rintro e w2 ⟨rfl, rfl⟩
            go_wp2_with (fail)
            refine bodyPost_ret (v := .tuple #[rv 3 m o n now, .bool true]) (by simp [results, Try.results10, go_sem]) rfl ⟨rfl, ?_⟩
            first
              | exact (((Below.refl w.heap.size w).alloc (Nat.le_refl _) _).alloc (by simp) _).alloc (by simp; omega) _
              | exact ((((Below.refl w.heap.size w).alloc (Nat.le_refl _) _).alloc (by simp) _).alloc (by simp; omega) _).alloc (by simp; omega) _
          · have h2' : (p == 2) = false := by simpa using h2
            have e : stepR p m o n a now fr = ((1, m, n, 0, now), true) := by simp [stepR, *]
            rw [e]
            go_enter Try.func10, Try.ntmps10
            go_wp2_with (fail)
            refine (C.out _).mono ?_
            rintro e w1 ⟨rfl, rfl⟩
            go_wp2_with (fail)
            refine (T.out _).mono ?_
            rintro e w2 ⟨rfl, rfl⟩
            go_wp2_with (fail)
            refine bodyPost_ret (v := .tuple #[rv 1 m n 0 now, .bool true]) (by simp [results, Try.results10, go_sem]) rfl ⟨rfl, ?_⟩
            first
              | exact (((Below.refl w.heap.size w).alloc (Nat.le_refl _) _).alloc (by simp) _).alloc (by simp; omega) _
              | exact ((((Below.refl w.heap.size w).alloc (Nat.le_refl _) _).alloc (by simp) _).alloc (by simp; omega) _).alloc (by simp; omega) _
end Go.Proofs.Yteclbfgkeoiclaa.Ro
