/-
  The program's side of chapter 15: sourceOk, timeOk, bucketOk, bucketPlace, BucketsOk, LeftFor, Drawn. (Written by wip/mkBuX.py.)
-/
import Derived.Test.YtiakongbiajlhaaBuW
import Derived.Test.YtiakongbiajlhaaBuI
import Derived.Test.YtiakongbiajlhaaBoxM
import Derived.Test.YtiakongbiajlhaaQuiet
import Derived.WalkMore
namespace Go.Proofs.Ytiakongbiajlhaa.Bu
open Go.ChangeShapes Go.WideShapes Go.ChangeAt Go.RowKit
open Go.Proofs.Ytiakongbiajlhaa.Rc (BelowBy BelowBy.one wp_region_below calls_below calls_same)
set_option linter.unusedVariables false
set_option maxHeartbeats 2000000 in
theorem impl_sourceOk (n : Int) (w : World) : Calls Try.prog 28 #[.int .i64 n] w fun e w' => e = .returned (.bool (inB n 0 99)) ∧ w' = w := by
  unfold inB
  by_cases h : (0 : Int) ≤ n
  · have h' : decide ((0 : Int) ≤ n) = true := decide_eq_true h
    rw [h', Bool.true_and]
    go_enter Try.func28, Try.ntmps28
    go_wp2
    go_ret
    exact ⟨rfl, rfl⟩
  · have h' : decide ((0 : Int) ≤ n) = false := decide_eq_false h
    rw [h', Bool.false_and]
    go_enter Try.func28, Try.ntmps28
    go_wp2
    go_ret
    exact ⟨rfl, rfl⟩
set_option maxHeartbeats 2000000 in
theorem impl_timeOk (n : Int) (w : World) : Calls Try.prog 29 #[.int .i64 n] w fun e w' => e = .returned (.bool (inB n 0 1000000)) ∧ w' = w := by
  unfold inB
  by_cases h : (0 : Int) ≤ n
  · have h' : decide ((0 : Int) ≤ n) = true := decide_eq_true h
    rw [h', Bool.true_and]
    go_enter Try.func29, Try.ntmps29
    go_wp2
    go_ret
    exact ⟨rfl, rfl⟩
  · have h' : decide ((0 : Int) ≤ n) = false := decide_eq_false h
    rw [h', Bool.false_and]
    go_enter Try.func29, Try.ntmps29
    go_wp2
    go_ret
    exact ⟨rfl, rfl⟩
set_option maxRecDepth 100000 in
set_option maxHeartbeats 4000000 in
theorem impl_bucketOk (x : Rw) (w : World) : Calls Try.prog 32 #[rv x] w fun e w' => e = .returned (.bool (okX x)) ∧ Below w.heap.size w w' := by
  obtain ⟨x0, x1, x2⟩ := x
  have C1 := hidIt (fun n W => impl_sourceOk n W)
  have C2 := hidIt (fun n W => impl_timeOk n W)
  have HB := hidIt ((Below.refl w.heap.size w).alloc (Nat.le_refl _) (.cells #[.int .i64 x0, .int .i64 x1, .int .i64 x2] 46))
  have BX := hidIt (Bo.Box.new w #[.int .i64 x0, .int .i64 x1, .int .i64 x2] 46)
  have hr : okX (x0, x1, x2) = (inB x0 0 99 && ((decide (0 ≤ x1) && decide (x1 ≤ 5)) && inB x2 0 1000000)) := rfl
  rw [hr]
  clear hr
  have c0 := BX.out.c 0 rfl
  have c1 := BX.out.c 1 rfl
  have c2 := BX.out.c 2 rfl
  cases hk : inB x0 0 99 with
  | false =>
    go_enter Try.func32, Try.ntmps32
    go_wp2_with (first | (go_at_call 28; refine (C1.out _ _).mono ?_; rintro e w' ⟨rfl, ew⟩; rw [ew, hk]; clear ew w') | fail)
    go_ret
    exact ⟨rfl, HB.out⟩
  | true =>
    by_cases h1 : (0 : Int) ≤ x1
    · by_cases h2 : x1 ≤ 5
      · have e1 : decide ((0 : Int) ≤ x1) = true := decide_eq_true h1
        have e2 : decide (x1 ≤ 5) = true := decide_eq_true h2
        rw [e1, e2]
        generalize hq : inB x2 0 1000000 = k3
        go_enter Try.func32, Try.ntmps32
        go_wp2_with (first | (go_at_call 28; refine (C1.out _ _).mono ?_; rintro e w' ⟨rfl, ew⟩; rw [ew, hk]; clear ew w') | (go_at_call 29; refine (C2.out _ _).mono ?_; rintro e w' ⟨rfl, ew⟩; rw [ew, hq]; clear ew w') | fail)
        go_ret
        exact ⟨rfl, HB.out⟩
      · have e1 : decide ((0 : Int) ≤ x1) = true := decide_eq_true h1
        have e2 : decide (x1 ≤ 5) = false := decide_eq_false h2
        rw [e1, e2]
        go_enter Try.func32, Try.ntmps32
        go_wp2_with (first | (go_at_call 28; refine (C1.out _ _).mono ?_; rintro e w' ⟨rfl, ew⟩; rw [ew, hk]; clear ew w') | fail)
        go_ret
        exact ⟨rfl, HB.out⟩
    · have e1 : decide ((0 : Int) ≤ x1) = false := decide_eq_false h1
      rw [e1]
      go_enter Try.func32, Try.ntmps32
      go_wp2_with (first | (go_at_call 28; refine (C1.out _ _).mono ?_; rintro e w' ⟨rfl, ew⟩; rw [ew, hk]; clear ew w') | fail)
      go_ret
      exact ⟨rfl, HB.out⟩
/-- Where a Source stands, or would. -/
def plcR (L : List Rw) (s : Int) : Nat × Bool := match bat L s with
  | some j => (j, true)
  | none => (plc L s, false)
set_option maxRecDepth 100000 in
set_option maxHeartbeats 4000000 in
theorem impl_bucketPlace (a : Option Addr) (cap : Nat) (L : List Rw) (s : Int) (w : World) (h : Rd w a L) (hok : okB L = true) :
    Calls Try.prog 26 #[.slice a L.length cap, .int .i64 s] w fun e w' => e = .returned (.tuple #[.int .i64 (plcR L s).1, .bool (plcR L s).2]) ∧ Below w.heap.size w w' := by
  have hl := okB_len hok
  have N1 : Hid (∀ j, j < L.length → sat L j = s → plcR L s = (j, true)) := hidIt (fun j hj hs => by unfold plcR; rw [bat_is hok hj hs])
  have N2 : Hid (∀ k, k ≤ L.length → (∀ i, i < k → sat L i < s) → (k < L.length → s < sat L k) → plcR L s = (k, false)) := hidIt (fun k hk h1 h2 => by
    have e : bat L s = none := bat_no (fun i hi => by
      rcases Nat.lt_trichotomy i k with q | q | q
      · have := h1 i q; omega
      · subst q; have := h2 hi; omega
      · have := h2 (by omega)
        have := okB_far hok k i q hi
        omega)
    unfold plcR
    rw [e, plc_is hk h1 (fun q => by have := h2 q; omega)])
  generalize plcR L s = r at N1 N2 ⊢
  have HR := hidIt h
  clear h hok
  generalize hn : L.length = m at *
  have HN := hidIt hn
  clear hn
  go_enter Try.func26, Try.ntmps26
  go_wp2_with (fail)
  go_step3
  go_wp2_with (fail)
  go_step3
  go_wp2_with (fail)
  go_loopw [6, 7, 14] (fun p t y wx => ∃ i : Nat, p = .int .i64 m ∧ t = .bool false ∧ y = .int .i64 i ∧ i ≤ m ∧ Hid (∀ j, j < i → sat L j < s) ∧ Hid (Below w.heap.size w wx)) (fun _ _ y _ => (m - intOf y).toNat)
  case atStart => exact ⟨0, rfl, rfl, rfl, by omega, hidIt (fun j hj => by omega), hidIt (Below.refl _ _)⟩
  case round =>
    obtain ⟨i, rfl, rfl, rfl, hi, HE, HB⟩ := hrel
    by_cases hin : i < m
    · have hin' : (i : Int) < (m : Int) := by omega
      have HRx := hidIt (HR.out.kept HB.out)
      obtain ⟨b, off, ea, c0, c1, c2⟩ := HRx.out.all (i := i) (by rw [HN.out]; exact hin)
      subst ea
      have N1i := hidIt (N1.out i hin)
      have N2i := hidIt (N2.out i (by omega) HE.out)
      have HE' : Hid (sat L i < s → ∀ j, j < i + 1 → sat L j < s) := hidIt (fun g j hj => by
        rcases Nat.lt_succ_iff_lt_or_eq.1 hj with h | h
        · exact HE.out j h
        · subst h; exact g)
      have hk : Hid (sat L i = (rat L i).1) := hidIt rfl
      rw [hk.out] at N1i N2i HE'
      clear hk
      generalize rat L i = x at c0 c1 c2 N1i N2i HE'
      obtain ⟨x0, x1, x2⟩ := x
      simp only at c0 c1 c2 N1i N2i HE'
      have BX := hidIt (Bo.Box.new wr #[.int .i64 x0, .int .i64 x1, .int .i64 x2] 46)
      have HBz := hidIt (HB.out.alloc HB.out.size (.cells #[.int .i64 x0, .int .i64 x1, .int .i64 x2] 46))
      have d0 := BX.out.c 0 rfl
      have gw : IntKind.i64.wrap ((i : Int) + 1) = (i : Int) + 1 := by rw [IntKind.wrap_i64]; omega
      by_cases hx : x0 = s
      · have er := N1i.out hx
        subst er
        have hb : (x0 == s) = true := by simpa using hx
        clear hx
        go_wp2_with (fail)
        try rw [Exit.noGoto_ret]
        go_ret2
        exact ⟨rfl, HBz.out⟩
      · have hb : (x0 == s) = false := by simpa using hx
        by_cases hg : s < x0
        · have er := N2i.out (fun _ => hg)
          subst er
          clear hx
          go_wp2_with (fail)
          try rw [Exit.noGoto_ret]
          go_ret2
          exact ⟨rfl, HBz.out⟩
        · have HE2 := hidIt (HE'.out (by omega))
          clear hx
          go_wp2_with (fail)
          exact ⟨⟨i + 1, rfl, rfl, by simp, by omega, HE2, HBz⟩, by simp [intOf]; omega⟩
    · have hin' : ¬ (i : Int) < (m : Int) := by omega
      obtain rfl : i = m := by omega
      have er := N2.out i (by omega) HE.out (fun q => by omega)
      subst er
      go_wp2_with (fail)
      try rw [Exit.noGoto_ret]
      go_ret2
      exact ⟨rfl, HB.out⟩
set_option maxRecDepth 100000 in
set_option maxHeartbeats 4000000 in
theorem impl_BucketsOk (a : Option Addr) (cap : Nat) (L : List Rw) (w : World) (h : Rd w a L) (hl : L.length ≤ 9223372036854775807) :
    Calls Try.prog 14 #[.slice a L.length cap] w fun e w' => e = .returned (.bool (okB L)) ∧ Below w.heap.size w w' := by
  have N1 : Hid (¬ L.length ≤ 20 → okB L = false) := hidIt okB_no1
  have N2 : Hid (∀ i, i < L.length → okX (rat L i) = false → okB L = false) := hidIt (fun i hi h => okB_no2 hi h)
  have N3 : Hid (∀ i, i + 1 < L.length → ¬ sat L i < sat L (i + 1) → okB L = false) := hidIt (fun i hi h => okB_no3 hi h)
  have N4 : Hid (L.length ≤ 20 → (∀ i, i < L.length → okX (rat L i) = true) → (∀ i, i + 1 < L.length → sat L i < sat L (i + 1)) → okB L = true) := hidIt okB_yes
  generalize okB L = r at N1 N2 N3 N4 ⊢
  have HR := hidIt h
  clear h
  generalize hn : L.length = m at *
  have HN := hidIt hn
  clear hn
  by_cases h80 : m ≤ 20
  · have h80' : ¬ (20 : Int) < (m : Int) := by omega
    go_enter Try.func14, Try.ntmps14
    go_wp2_with (fail)
    go_loopw [10] (fun y wx => ∃ i : Nat, y = .int .i64 i ∧ i ≤ m ∧ Hid (∀ j, j < i → okX (rat L j) = true) ∧ Hid (∀ j, j + 1 < i → sat L j < sat L (j + 1)) ∧ Hid (Below w.heap.size w wx)) (fun y _ => (m - intOf y).toNat)
    case atStart => exact ⟨0, rfl, by omega, hidIt (fun j hj => by omega), hidIt (fun j hj => by omega), hidIt (Below.refl _ _)⟩
    case round =>
      obtain ⟨i, rfl, hi, HO, HK, HB⟩ := hrel
      by_cases hin : i < m
      · have hin' : (i : Int) < (m : Int) := by omega
        have HRx := hidIt (HR.out.kept HB.out)
        obtain ⟨b, off, ea, c0, c1, c2⟩ := HRx.out.all (i := i) (by rw [HN.out]; exact hin)
        subst ea
        have CB := hidIt (fun W => impl_bucketOk (rat L i) W)
        obtain ⟨ok, hok⟩ : ∃ ok, okX (rat L i) = ok := ⟨_, rfl⟩
        have HOK := hidIt hok
        rw [hok] at CB
        clear hok
        have hkey : Hid (sat L i = (rat L i).1) := hidIt rfl
        generalize rat L i = x at c0 c1 c2 CB hkey
        obtain ⟨x0, x1, x2⟩ := x
        simp only at c0 c1 c2 CB hkey
        have BX := hidIt (Bo.Box.new wr #[.int .i64 x0, .int .i64 x1, .int .i64 x2] 46)
        have HBz := hidIt (HB.out.alloc HB.out.size (.cells #[.int .i64 x0, .int .i64 x1, .int .i64 x2] 46))
        have HRz := hidIt (HRx.out.alloc (.cells #[.int .i64 x0, .int .i64 x1, .int .i64 x2] 46))
        cases ok with
        | false =>
          have er := N2.out i hin HOK.out
          subst er
          go_wp2_with (fail)
          generalize wr.alloc (.cells #[.int .i64 x0, .int .i64 x1, .int .i64 x2] 46) = wz at BX HBz HRz ⊢
          haveI := BelowBy.one wz
          have g0 := fun p : BelowBy wz => p.cell (BX.out.c 0 rfl)
          have g1 := fun p : BelowBy wz => p.cell (BX.out.c 1 rfl)
          have g2 := fun p : BelowBy wz => p.cell (BX.out.c 2 rfl)
          refine wp_region_below (by kernel_rfl) (by kernel_rfl) ?_
          repeat (go_big_quiet_step (first | (go_at_call 32; refine calls_below (CB.out _))))
          refine wpQuiet_nil ?_
          intro _ hw'
          obtain ⟨pq, rfl⟩ := hw'
          have HB1 := hidIt (HBz.out.trans (pq.h.mono HBz.out.size))
          generalize pq.world = w2 at HB1 ⊢
          clear g0 g1 g2
          go_wp2_with (fail)
          go_ret
          exact ⟨rfl, HB1.out⟩
        | true =>
          have HO' : Hid (∀ j, j < i + 1 → okX (rat L j) = true) := hidIt (fun j hj => by
            rcases Nat.lt_succ_iff_lt_or_eq.1 hj with h | h
            · exact HO.out j h
            · subst h; exact HOK.out)
          rcases Nat.eq_zero_or_pos i with hz | hp
          · subst hz
            simp only [Nat.zero_mul, Nat.add_zero] at c0 c1 c2
            go_wp2_with (fail)
            generalize wr.alloc (.cells #[.int .i64 x0, .int .i64 x1, .int .i64 x2] 46) = wz at BX HBz HRz ⊢
            haveI := BelowBy.one wz
            have g0 := fun p : BelowBy wz => p.cell (BX.out.c 0 rfl)
            have g1 := fun p : BelowBy wz => p.cell (BX.out.c 1 rfl)
            have g2 := fun p : BelowBy wz => p.cell (BX.out.c 2 rfl)
            refine wp_region_below (by kernel_rfl) (by kernel_rfl) ?_
            repeat (go_big_quiet_step (first | (go_at_call 32; refine calls_below (CB.out _))))
            refine wpQuiet_nil ?_
            intro _ hw'
            obtain ⟨pq, rfl⟩ := hw'
            have HB1 := hidIt (HBz.out.trans (pq.h.mono HBz.out.size))
            generalize pq.world = w2 at HB1 ⊢
            clear g0 g1 g2
            go_wp2_with (fail)
            exact ⟨⟨1, by simp, by omega, HO', hidIt (fun j hj => by omega), HB1⟩, by simp [intOf]; omega⟩
          · obtain ⟨j, rfl⟩ : ∃ j, i = j + 1 := ⟨i - 1, by omega⟩
            have hpos : (0 : Int) < ((j : Int) + 1) := by omega
            have hj8 : (j : Int) ≤ 20 := by omega
            have hj0 : (0 : Int) ≤ (j : Int) := by omega
            obtain ⟨pk, epk⟩ : ∃ pk, (rat L j).1 = pk := ⟨_, rfl⟩
            have hkj : Hid (sat L j = pk) := hidIt epk
            have EPK := hidIt epk
            clear epk
            go_wp2_with (fail)
            generalize wr.alloc (.cells #[.int .i64 x0, .int .i64 x1, .int .i64 x2] 46) = wz at BX HBz HRz ⊢
            haveI := BelowBy.one wz
            have g0 := fun p : BelowBy wz => p.cell (BX.out.c 0 rfl)
            have g1 := fun p : BelowBy wz => p.cell (BX.out.c 1 rfl)
            have g2 := fun p : BelowBy wz => p.cell (BX.out.c 2 rfl)
            obtain ⟨b', off', ea2, q0, _⟩ := HRz.out.all (i := j) (by rw [HN.out]; omega)
            cases ea2
            rw [EPK.out] at q0
            have k0 := fun p : BelowBy wz => p.cell q0
            clear q0
            by_cases hlt : pk < x0
            · have hd : decide (x0 ≤ pk) = false := decide_eq_false (by omega)
              have HK' : Hid (∀ q, q + 1 < j + 1 + 1 → sat L q < sat L (q + 1)) := hidIt (fun q hq => by
                rcases Nat.lt_succ_iff_lt_or_eq.1 (show q + 1 < j + 1 + 1 from hq) with h | h
                · exact HK.out q h
                · have : q = j := by omega
                  subst this
                  rw [hkj.out, hkey.out]
                  exact hlt)
              clear hlt
              refine wp_region_below (by kernel_rfl) (by kernel_rfl) ?_
              repeat (go_big_quiet_step (first | (go_at_call 32; refine calls_below (CB.out _))))
              refine wpQuiet_nil ?_
              intro _ hw'
              obtain ⟨pq, rfl⟩ := hw'
              have HB1 := hidIt (HBz.out.trans (pq.h.mono HBz.out.size))
              generalize pq.world = w2 at HB1 ⊢
              clear g0 g1 g2 k0
              go_wp2_with (fail)
              exact ⟨⟨j + 1 + 1, by simp, by omega, HO', HK', HB1⟩, by simp [intOf]; omega⟩
            · have er := N3.out j (by omega) (by rw [hkj.out, hkey.out]; omega)
              have hd : decide (x0 ≤ pk) = true := decide_eq_true (by omega)
              subst er
              clear hlt
              refine wp_region_below (by kernel_rfl) (by kernel_rfl) ?_
              repeat (go_big_quiet_step (first | (go_at_call 32; refine calls_below (CB.out _))))
              refine wpQuiet_nil ?_
              intro _ hw'
              obtain ⟨pq, rfl⟩ := hw'
              have HB1 := hidIt (HBz.out.trans (pq.h.mono HBz.out.size))
              generalize pq.world = w2 at HB1 ⊢
              clear g0 g1 g2 k0
              go_wp2_with (fail)
              go_ret
              exact ⟨rfl, HB1.out⟩
      · have hin' : ¬ (i : Int) < (m : Int) := by omega
        have HI : Hid (i = m) := hidIt (by omega)
        have er := N4.out h80 (fun j hj => HO.out j (by have := HI.out; omega)) (fun j hj => HK.out j (by have := HI.out; omega))
        subst er
        go_wp2_with (fail)
        go_ret
        exact ⟨rfl, HB.out⟩
  · have h80' : (20 : Int) < (m : Int) := by omega
    have er := N1.out h80
    subst er
    go_enter Try.func14, Try.ntmps14
    go_wp2
    go_ret
    exact ⟨rfl, Below.refl _ _⟩
set_option maxRecDepth 100000 in
set_option maxHeartbeats 4000000 in
theorem impl_LeftFor (a : Option Addr) (cap : Nat) (L : List Rw) (s now : Int) (w : World) (h : Rd w a L) (hna : a = none → cap = 0) (hl : L.length ≤ 9223372036854775807) :
    Calls Try.prog 10 #[.slice a L.length cap, .int .i64 s, .int .i64 now] w fun e w' => e = .returned (.int .i64 (leftForR L s now)) ∧ Below w.heap.size w w' := by
  have CO := hidIt (impl_BucketsOk a cap L w h hl)
  have C1 := hidIt (fun W => impl_sourceOk s W)
  have C2 := hidIt (fun W => impl_timeOk now W)
  have HR := hidIt h
  unfold leftForR
  clear h hna
  cases ho : okB L with
  | false =>
    rw [ho] at CO
    clear ho
    generalize L.length = m at *
    go_enter Try.func10, Try.ntmps10
    go_wp2_with (first | (go_at_call 14; refine (CO.out).mono ?_; rintro e w1 ⟨rfl, kk⟩; have HB := hidIt kk; clear kk) | (go_at_call 28; refine (C1.out _).mono ?_; rintro e w' ⟨rfl, ew⟩; rw [ew]; clear ew w') | (go_at_call 29; refine (C2.out _).mono ?_; rintro e w' ⟨rfl, ew⟩; rw [ew]; clear ew w') | fail)
    go_ret
    exact ⟨rfl, HB.out⟩
  | true =>
    rw [ho] at CO
    rw [if_pos rfl]
    have CP := hidIt (fun W (r : Rd W a L) => impl_bucketPlace a cap L s W r ho)
    have N1 : Hid ((inB s 0 99 && inB now 0 1000000) = false → leftR L s now = -1) := hidIt left_range
    have N2 : Hid ((inB s 0 99 && inB now 0 1000000) = true → bat L s = none → leftR L s now = 5) := hidIt left_new
    have N3 : Hid (∀ j, (inB s 0 99 && inB now 0 1000000) = true → bat L s = some j → now < (rat L j).2.2 → leftR L s now = -1) := hidIt (fun j => left_late)
    have N4 : Hid (∀ j, (inB s 0 99 && inB now 0 1000000) = true → bat L s = some j → ¬ now < (rat L j).2.2 → leftR L s now = min 5 ((rat L j).2.1 + now - (rat L j).2.2)) := hidIt (fun j => left_old)
    have N5 : Hid (∀ j, bat L s = some j → j < L.length) := hidIt (fun j e => (bat_some e).1)
    have N6 : Hid (∀ j, j < L.length → okX (rat L j) = true) := hidIt (fun j hj => okB_at ho hj)
    have N7 : Hid (inB now 0 1000000 = true → 0 ≤ now ∧ now ≤ 1000000) := hidIt inB_to
    have P1 : Hid (bat L s = none → plcR L s = (plc L s, false)) := hidIt (fun e => by unfold plcR; rw [e])
    have P2 : Hid (∀ j, bat L s = some j → plcR L s = (j, true)) := hidIt (fun j e => by unfold plcR; rw [e])
    have hlen := okB_len ho
    generalize leftR L s now = r at N1 N2 N3 N4 ⊢
    generalize plcR L s = pr at CP P1 P2
    clear ho
    generalize hn : L.length = m at *
    have HN := hidIt hn
    clear hn
    generalize inB s 0 99 = k1 at C1 N1 N2 N3 N4
    generalize inB now 0 1000000 = k2 at C2 N1 N2 N3 N4 N7
    cases k1 with
    | false =>
      have er := N1.out rfl
      subst er
      go_enter Try.func10, Try.ntmps10
      go_wp2_with (first | (go_at_call 14; refine (CO.out).mono ?_; rintro e w1 ⟨rfl, kk⟩; have HB := hidIt kk; clear kk) | (go_at_call 28; refine (C1.out _).mono ?_; rintro e w' ⟨rfl, ew⟩; rw [ew]; clear ew w') | (go_at_call 29; refine (C2.out _).mono ?_; rintro e w' ⟨rfl, ew⟩; rw [ew]; clear ew w') | fail)
      go_ret
      exact ⟨rfl, HB.out⟩
    | true =>
      cases k2 with
      | false =>
        have er := N1.out rfl
        subst er
        go_enter Try.func10, Try.ntmps10
        go_wp2_with (first | (go_at_call 14; refine (CO.out).mono ?_; rintro e w1 ⟨rfl, kk⟩; have HB := hidIt kk; clear kk) | (go_at_call 28; refine (C1.out _).mono ?_; rintro e w' ⟨rfl, ew⟩; rw [ew]; clear ew w') | (go_at_call 29; refine (C2.out _).mono ?_; rintro e w' ⟨rfl, ew⟩; rw [ew]; clear ew w') | fail)
        go_ret
        exact ⟨rfl, HB.out⟩
      | true =>
        have hnow := N7.out rfl
        cases hb : bat L s with
        | none =>
          have er := N2.out rfl hb
          have ep := P1.out hb
          subst er ep
          clear hb N1 N2 N3 N4 N5 N6 N7 P1 P2
          go_enter Try.func10, Try.ntmps10
          go_wp2_with (first | (go_at_call 14; refine (CO.out).mono ?_; rintro e w1 ⟨rfl, kk⟩; have HB := hidIt kk; clear kk) | (go_at_call 28; refine (C1.out _).mono ?_; rintro e w' ⟨rfl, ew⟩; rw [ew]; clear ew w') | (go_at_call 29; refine (C2.out _).mono ?_; rintro e w' ⟨rfl, ew⟩; rw [ew]; clear ew w') | fail)
          refine (CP.out _ (HR.out.kept HB.out)).mono ?_
          rintro e w2 ⟨rfl, kk⟩
          replace HB := hidIt (HB.out.trans (kk.mono HB.out.size))
          clear kk
          go_wp2_with (fail)
          go_ret
          exact ⟨rfl, HB.out⟩
        | some j =>
          have hj := N5.out j hb
          have hx := N6.out j hj
          have N3' := hidIt (N3.out j rfl hb)
          have N4' := hidIt (N4.out j rfl hb)
          have ep := P2.out j hb
          subst ep
          clear hb N1 N2 N3 N4 N5 N6 N7 P1 P2
          have hjm : (j : Int) < (m : Int) := by omega
          have g0 : (0 : Int) ≤ (j : Int) := by omega
          go_enter Try.func10, Try.ntmps10
          go_wp2_with (first | (go_at_call 14; refine (CO.out).mono ?_; rintro e w1 ⟨rfl, kk⟩; have HB := hidIt kk; clear kk) | (go_at_call 28; refine (C1.out _).mono ?_; rintro e w' ⟨rfl, ew⟩; rw [ew]; clear ew w') | (go_at_call 29; refine (C2.out _).mono ?_; rintro e w' ⟨rfl, ew⟩; rw [ew]; clear ew w') | fail)
          refine (CP.out _ (HR.out.kept HB.out)).mono ?_
          rintro e w2 ⟨rfl, kk⟩
          replace HB := hidIt (HB.out.trans (kk.mono HB.out.size))
          clear kk
          obtain ⟨b, off, ea, c0, c1, c2⟩ := (HR.out.kept HB.out).all (i := j) (by rw [HN.out]; exact hj)
          subst ea
          generalize rat L j = x at c0 c1 c2 hx N3' N4'
          obtain ⟨x0, x1, x2⟩ := x
          obtain ⟨_, hx1, hx2⟩ := okX_to hx
          simp only at c0 c1 c2 N3' N4' hx1 hx2
          clear hx
          have BX := hidIt (Bo.Box.new w2 #[.int .i64 x0, .int .i64 x1, .int .i64 x2] 46)
          have HBz := hidIt (HB.out.alloc HB.out.size (.cells #[.int .i64 x0, .int .i64 x1, .int .i64 x2] 46))
          have d1 := BX.out.c 1 rfl
          have d2 := BX.out.c 2 rfl
          have gw1 : IntKind.i64.wrap (x1 + now) = x1 + now := by rw [IntKind.wrap_i64]; omega
          have gw2 : IntKind.i64.wrap (x1 + now - x2) = x1 + now - x2 := by rw [IntKind.wrap_i64]; omega
          by_cases hlt : now < x2
          · have er := N3'.out hlt
            subst er
            go_wp2_with (fail)
            go_ret
            exact ⟨rfl, HBz.out⟩
          · have er := N4'.out (by omega)
            clear N3' N4'
            subst er
            go_wp2_with (fail)
            go_ret
            exact ⟨rfl, HBz.out⟩
set_option maxRecDepth 100000 in
set_option maxHeartbeats 8000000 in
theorem impl_Drawn (a : Option Addr) (cap : Nat) (L : List Rw) (s now : Int) (w : World) (h : Rd w a L) (hna : a = none → cap = 0) (hl : L.length ≤ 9223372036854775807) :
    Calls Try.prog 9 #[.slice a L.length cap, .int .i64 s, .int .i64 now] w fun e w' => ∃ v, e = .returned (.tuple #[v, .bool (drawnR L s now).2]) ∧ Own w' w.heap.size v (drawnR L s now).1 ∧ Below w.heap.size w w' := by
  obtain ⟨i0, hi0, hz0, hz1, hz2⟩ := info_parts infoRw
  have CO := hidIt (impl_BucketsOk a cap L w h hl)
  have HR := hidIt h
  cases ho : okB L with
  | false =>
    rw [ho] at CO
    rw [drawn_bad ho]
    clear h ho hna
    generalize L.length = m at *
    go_enter Try.func9, Try.ntmps9
    go_wp2_with (fail)
    refine CO.out.mono ?_
    rintro e w1 ⟨rfl, kk⟩
    have HB := hidIt kk
    clear kk
    go_wp2_with (fail)
    go_ret2
    exact ⟨_, rfl, (Own.new w1).mono HB.out.size, HB.out.alloc HB.out.size _⟩
  | true =>
    rw [ho] at CO
    have hlen := okB_len ho
    have CL := hidIt (fun g c W (r : Rd W (some ⟨g, 0, none⟩) L) => impl_LeftFor (some ⟨g, 0, none⟩) c L s now W r (fun e => by cases e) hl)
    have CP := hidIt (fun g c W (r : Rd W (some ⟨g, 0, none⟩) L) => impl_bucketPlace (some ⟨g, 0, none⟩) c L s W r ho)
    have el : leftForR L s now = leftR L s now := by unfold leftForR; rw [ho]; rfl
    rw [el] at CL
    have hle := left_le L s now
    have D0 : Hid (leftR L s now < 1 → drawnR L s now = (L, false)) := hidIt (fun q => drawn_no ho (by unfold goes; rw [decide_eq_false (by omega)]; rfl))
    have D1 : Hid (∀ j, ¬ leftR L s now < 1 → bat L s = some j → drawnR L s now = (L.set j (s, leftR L s now - 1, now), true)) := hidIt (fun j q e => by
      rw [drawn_yes ho (by unfold goes; rw [decide_eq_true (by omega), e]; rfl)]
      unfold drawL
      rw [e])
    have D2 : Hid (L.length = 20 → bat L s = none → drawnR L s now = (L, false)) := hidIt (fun q e => drawn_no ho (by unfold goes; rw [e, decide_eq_false (p := L.length ≠ 20) (by omega)]; simp))
    have D3 : Hid (¬ leftR L s now < 1 → L.length ≠ 20 → bat L s = none → drawnR L s now = (L.take (plc L s) ++ (s, leftR L s now - 1, now) :: L.drop (plc L s), true)) := hidIt (fun q r e => by
      rw [drawn_yes ho (by unfold goes; rw [decide_eq_true (by omega), e, decide_eq_true (p := L.length ≠ 20) r]; rfl)]
      unfold drawL
      rw [e]
      simp)
    have PB := hidIt (fun j (e : bat L s = some j) => (bat_some e).1)
    have P1 : Hid (bat L s = none → plcR L s = (plc L s, false)) := hidIt (fun e => by unfold plcR; rw [e])
    have P2 : Hid (∀ j, bat L s = some j → plcR L s = (j, true)) := hidIt (fun j e => by unfold plcR; rw [e])
    have hpl := plc_le L s
    generalize drawnR L s now = dr at D0 D1 D2 D3 ⊢
    generalize leftR L s now = lf at CL D0 D1 D3 hle
    generalize plcR L s = pr at CP P1 P2
    generalize plc L s = pk at D3 P1 hpl
    generalize bat L s = at0 at D1 D2 D3 PB P1 P2
    clear h ho el
    generalize hn : L.length = n at *
    have HN := hidIt hn
    clear hn
    by_cases h1 : lf < 1
    · have ed := D0.out h1
      subst ed
      clear D0 D1 D2 D3 PB P1 P2 CP
      cases a with
      | none =>
        have HL0 : Hid (L = []) := hidIt HR.out.none_nil
        have hm0 : n = 0 := by rw [← HN.out, HL0.out]; rfl
        have hc0 := hna rfl
        subst hm0 hc0

        go_enter Try.func9, Try.ntmps9
        go_wp2_with (fail)
        refine CO.out.mono ?_
        rintro e w1 ⟨rfl, kk⟩
        have HB1 := hidIt (kk.alloc kk.size (.cells #[] 46))
        have hsz := kk.size
        have HR1 := hidIt ((HR.out.kept kk).alloc (.cells #[] 46))
        have HE0 : Hid (World.ownsRow (w1.alloc (.cells #[] 46)) w1.heap.size 46 3 (.slice (some ⟨w1.heap.size, 0, none⟩) 0 0) 0 []) := hidIt (by have := Own.new w1; simpa [Own, rcells] using this)
        clear kk CO

        have HO : Hid (Own (w1.alloc (.cells #[] 46)) w.heap.size (.slice (some ⟨w1.heap.size, 0, none⟩) 0 0) L) := hidIt (by rw [HL0.out]; exact (Own.new w1).mono hsz)
        go_wp2_with (fail)
        have HB := HB1
        have hgl2 : w1.heap.size < (w1.alloc (.cells #[] 46)).heap.size := by simp
        have hgl3 : w.heap.size ≤ w1.heap.size := hsz
        obtain ⟨gl, hgl⟩ : ∃ gl, w1.heap.size = gl := ⟨_, rfl⟩
        rw [hgl] at HO hgl2 hgl3 ⊢
        generalize w1.alloc (.cells #[] 46) = w9 at HO HB hgl2 ⊢
        clear HE0 HB1 HR1 HR hgl hsz hna

        have HR9 : Hid (Rd w9 (some ⟨gl, 0, none⟩) L) := hidIt (by
          obtain ⟨a', _, e1, _, _, r, _⟩ := HO.out.form
          rw [(Value.slice.inj e1).1]
          exact r)

        go_wp2_with (fail)
        refine (CL.out gl 0 _ HR9.out).mono ?_
        rintro e W1 ⟨rfl, kk⟩
        replace HB := hidIt (HB.out.trans (kk.mono HB.out.size))
        replace HO := hidIt (HO.out.kept kk)
        replace HR9 := hidIt (HR9.out.kept kk)
        have hgl4 : gl < W1.heap.size := Nat.lt_of_lt_of_le hgl2 kk.size
        clear kk

        go_wp2_with (fail)
        refine bodyPost_ret (v := .tuple #[.slice (some ⟨gl, 0, none⟩) 0 0, .bool false]) (by simp [results, Try.results9, go_sem]) rfl ⟨_, rfl, HO.out, HB.out⟩
      | some ad =>
        go_enter Try.func9, Try.ntmps9
        go_wp2_with (fail)
        refine CO.out.mono ?_
        rintro e w1 ⟨rfl, kk⟩
        have HB1 := hidIt (kk.alloc kk.size (.cells #[] 46))
        have hsz := kk.size
        have HR1 := hidIt ((HR.out.kept kk).alloc (.cells #[] 46))
        have HE0 : Hid (World.ownsRow (w1.alloc (.cells #[] 46)) w1.heap.size 46 3 (.slice (some ⟨w1.heap.size, 0, none⟩) 0 0) 0 []) := hidIt (by have := Own.new w1; simpa [Own, rcells] using this)
        clear kk CO

        have HC : Hid (∀ j u, (rcells L)[j]? = some u → (w1.alloc (.cells #[] 46)).cell? (ad.add j) = some u) := hidIt (fun j u hj => by
          have hlt : j < L.length * 3 := by rw [← rcells_length]; exact (List.getElem?_eq_some_iff.1 hj).1
          obtain ⟨b0, o0, e0, _⟩ := HR1.out.cell (j / 3) (by omega)
          cases e0
          exact HR1.out.cells j u hj)
        go_wp2_with (first | (at_builtin; refine wpList_append_own _ rfl _ _ 24 rfl w1.heap.size 46 i0 (.agg #[.int .i64 0, .int .i64 0, .int .i64 0]) 3 24 Try.underlying24 hi0 hz0 hz1 hz2 rfl (by decide) _ _ _ rfl HE0.out ad n cap (rcells L) rfl (by rw [rcells_length, HN.out]) HC.out (rcells_one _) (by unfold maxLen; omega) (by omega) (by simp) ?_) | fail)
        intro v' w9 hown hgrow hnil
        have HF : Hid (Own w9 w1.heap.size v' L) := hidIt (by unfold Own; rw [HN.out]; simpa using hown)
        have kk := grown_below (show Own (w1.alloc (.cells #[] 46)) w1.heap.size (.slice (some ⟨w1.heap.size, 0, none⟩) 0 0) [] from HE0.out) hgrow (Nat.le_refl _) (by simp)
        have hv : v' ≠ .slice none 0 0 := by first | exact hnil | (intro e; have := (hnil.1 e).1; cases this)
        have HB := hidIt (HB1.out.trans (kk.mono hsz))
        obtain ⟨gl, cp, ev, hcp1, hcp2, hgl1, hgl2⟩ := HF.out.some_form hv
        rw [HN.out] at ev hcp1
        subst ev
        have HO := hidIt (HF.out.mono hsz)
        have hgl3 : w.heap.size ≤ gl := by omega
        clear HF hv kk hown hgrow hnil HC HE0 HB1 HR1 HR hgl1

        have HR9 : Hid (Rd w9 (some ⟨gl, 0, none⟩) L) := hidIt (by
          obtain ⟨a', _, e1, _, _, r, _⟩ := HO.out.form
          rw [(Value.slice.inj e1).1]
          exact r)

        go_wp2_with (fail)
        refine (CL.out gl cp _ HR9.out).mono ?_
        rintro e W1 ⟨rfl, kk⟩
        replace HB := hidIt (HB.out.trans (kk.mono HB.out.size))
        replace HO := hidIt (HO.out.kept kk)
        replace HR9 := hidIt (HR9.out.kept kk)
        have hgl4 : gl < W1.heap.size := Nat.lt_of_lt_of_le hgl2 kk.size
        clear kk

        go_wp2_with (fail)
        refine bodyPost_ret (v := .tuple #[.slice (some ⟨gl, 0, none⟩) n cp, .bool false]) (by simp [results, Try.results9, go_sem]) rfl ⟨_, rfl, HO.out, HB.out⟩
    have hwl : ¬ 9223372036854775807 < lf - 1 := by omega
    have hwl2 : ¬ lf - 1 < -9223372036854775808 := by omega
    have gwl : IntKind.i64.wrap (lf - 1) = lf - 1 := by rw [IntKind.wrap_i64]; omega
    cases at0 with
    | some j =>
      have ed := D1.out j h1 rfl
      have hj := PB.out j rfl
      have ep := P2.out j rfl
      subst ed ep
      have hpos : (0 : Int) ≤ (j : Int) := by omega
      have hjn : (j : Int) < (n : Int) := by omega
      clear D0 D1 D2 D3 PB P1 P2
      cases a with
      | none =>
        have : n = 0 := by rw [← HN.out, HR.out.none_nil]; rfl
        omega
      | some ad =>
        go_enter Try.func9, Try.ntmps9
        go_wp2_with (fail)
        refine CO.out.mono ?_
        rintro e w1 ⟨rfl, kk⟩
        have HB1 := hidIt (kk.alloc kk.size (.cells #[] 46))
        have hsz := kk.size
        have HR1 := hidIt ((HR.out.kept kk).alloc (.cells #[] 46))
        have HE0 : Hid (World.ownsRow (w1.alloc (.cells #[] 46)) w1.heap.size 46 3 (.slice (some ⟨w1.heap.size, 0, none⟩) 0 0) 0 []) := hidIt (by have := Own.new w1; simpa [Own, rcells] using this)
        clear kk CO

        have HC : Hid (∀ j u, (rcells L)[j]? = some u → (w1.alloc (.cells #[] 46)).cell? (ad.add j) = some u) := hidIt (fun j u hj => by
          have hlt : j < L.length * 3 := by rw [← rcells_length]; exact (List.getElem?_eq_some_iff.1 hj).1
          obtain ⟨b0, o0, e0, _⟩ := HR1.out.cell (j / 3) (by omega)
          cases e0
          exact HR1.out.cells j u hj)
        go_wp2_with (first | (at_builtin; refine wpList_append_own _ rfl _ _ 24 rfl w1.heap.size 46 i0 (.agg #[.int .i64 0, .int .i64 0, .int .i64 0]) 3 24 Try.underlying24 hi0 hz0 hz1 hz2 rfl (by decide) _ _ _ rfl HE0.out ad n cap (rcells L) rfl (by rw [rcells_length, HN.out]) HC.out (rcells_one _) (by unfold maxLen; omega) (by omega) (by simp) ?_) | fail)
        intro v' w9 hown hgrow hnil
        have HF : Hid (Own w9 w1.heap.size v' L) := hidIt (by unfold Own; rw [HN.out]; simpa using hown)
        have kk := grown_below (show Own (w1.alloc (.cells #[] 46)) w1.heap.size (.slice (some ⟨w1.heap.size, 0, none⟩) 0 0) [] from HE0.out) hgrow (Nat.le_refl _) (by simp)
        have hv : v' ≠ .slice none 0 0 := by first | exact hnil | (intro e; have := (hnil.1 e).1; cases this)
        have HB := hidIt (HB1.out.trans (kk.mono hsz))
        obtain ⟨gl, cp, ev, hcp1, hcp2, hgl1, hgl2⟩ := HF.out.some_form hv
        rw [HN.out] at ev hcp1
        subst ev
        have HO := hidIt (HF.out.mono hsz)
        have hgl3 : w.heap.size ≤ gl := by omega
        clear HF hv kk hown hgrow hnil HC HE0 HB1 HR1 HR hgl1

        have HR9 : Hid (Rd w9 (some ⟨gl, 0, none⟩) L) := hidIt (by
          obtain ⟨a', _, e1, _, _, r, _⟩ := HO.out.form
          rw [(Value.slice.inj e1).1]
          exact r)

        go_wp2_with (fail)
        refine (CL.out gl cp _ HR9.out).mono ?_
        rintro e W1 ⟨rfl, kk⟩
        replace HB := hidIt (HB.out.trans (kk.mono HB.out.size))
        replace HO := hidIt (HO.out.kept kk)
        replace HR9 := hidIt (HR9.out.kept kk)
        have hgl4 : gl < W1.heap.size := Nat.lt_of_lt_of_le hgl2 kk.size
        clear kk

        have HOz := hidIt (HO.out.alloc (.cells #[.int .i64 s, .int .i64 (lf - 1), .int .i64 now] 46))
        have HBz := hidIt (HB.out.alloc HB.out.size (.cells #[.int .i64 s, .int .i64 (lf - 1), .int .i64 now] 46))
        have HRz := hidIt (HR9.out.alloc (.cells #[.int .i64 s, .int .i64 (lf - 1), .int .i64 now] 46))
        have BX := hidIt (Bo.Box.new W1 #[.int .i64 s, .int .i64 (lf - 1), .int .i64 now] 46)
        go_wp2_with (fail)
        refine (CP.out gl cp _ HRz.out).mono ?_
        rintro e W2 ⟨rfl, kk⟩
        replace HBz := hidIt (HBz.out.trans (kk.mono HBz.out.size))
        replace HOz := hidIt (HOz.out.kept kk)
        replace BX := hidIt (BX.out.kept kk)
        have hsz2 : W1.heap.size < W2.heap.size := by have := kk.size; simp at this; omega
        clear kk HO HB HR9 HRz
        have d0 := BX.out.c 0 rfl
        have d1 := BX.out.c 1 rfl
        have d2 := BX.out.c 2 rfl

        have hne : ¬ gl = W1.heap.size := by omega
        have q0 := HOz.out.at (i := j) (j := 0) (by rw [HN.out]; exact hj) (by omega)
        have q1 := HOz.out.at (i := j) (j := 1) (by rw [HN.out]; exact hj) (by omega)
        have q2 := HOz.out.at (i := j) (j := 2) (by rw [HN.out]; exact hj) (by omega)
        have f0 := HOz.out.free (j * 3)
        have f1 := HOz.out.free (j * 3 + 1)
        have f2 := HOz.out.free (j * 3 + 2)
        rw [Nat.add_zero] at q0
        simp only [rcell] at q0 q1 q2
        have HO3 := hidIt (HOz.out.whole (i := j) (by rw [HN.out]; exact hj) (s, lf - 1, now))
        have HB3 := hidIt (((HBz.out.setCell (p := ⟨gl, j * 3, none⟩) hgl3 (.int .i64 s)).setCell (p := ⟨gl, j * 3 + 1, none⟩) hgl3 (.int .i64 (lf - 1))).setCell (p := ⟨gl, j * 3 + 2, none⟩) hgl3 (.int .i64 now))
        go_wp2_with (fail)
        refine bodyPost_ret (v := .tuple #[.slice (some ⟨gl, 0, none⟩) n cp, .bool true]) (by simp [results, Try.results9, go_sem]) rfl ⟨_, rfl, ?_, HB3.out⟩
        exact HO3.out
    | none =>
      have ep := P1.out rfl
      subst ep
      by_cases h20 : n = 20
      · have ed := D2.out h20 rfl
        subst ed
        have h20' : ((n : Int) == 20) = true := by rw [h20]; rfl
        clear D0 D1 D2 D3 PB P1 P2
        cases a with
        | none =>
          have : n = 0 := by rw [← HN.out, HR.out.none_nil]; rfl
          omega
        | some ad =>
          clear h20
          go_enter Try.func9, Try.ntmps9
          go_wp2_with (fail)
          refine CO.out.mono ?_
          rintro e w1 ⟨rfl, kk⟩
          have HB1 := hidIt (kk.alloc kk.size (.cells #[] 46))
          have hsz := kk.size
          have HR1 := hidIt ((HR.out.kept kk).alloc (.cells #[] 46))
          have HE0 : Hid (World.ownsRow (w1.alloc (.cells #[] 46)) w1.heap.size 46 3 (.slice (some ⟨w1.heap.size, 0, none⟩) 0 0) 0 []) := hidIt (by have := Own.new w1; simpa [Own, rcells] using this)
          clear kk CO

          have HC : Hid (∀ j u, (rcells L)[j]? = some u → (w1.alloc (.cells #[] 46)).cell? (ad.add j) = some u) := hidIt (fun j u hj => by
            have hlt : j < L.length * 3 := by rw [← rcells_length]; exact (List.getElem?_eq_some_iff.1 hj).1
            obtain ⟨b0, o0, e0, _⟩ := HR1.out.cell (j / 3) (by omega)
            cases e0
            exact HR1.out.cells j u hj)
          go_wp2_with (first | (at_builtin; refine wpList_append_own _ rfl _ _ 24 rfl w1.heap.size 46 i0 (.agg #[.int .i64 0, .int .i64 0, .int .i64 0]) 3 24 Try.underlying24 hi0 hz0 hz1 hz2 rfl (by decide) _ _ _ rfl HE0.out ad n cap (rcells L) rfl (by rw [rcells_length, HN.out]) HC.out (rcells_one _) (by unfold maxLen; omega) (by omega) (by simp) ?_) | fail)
          intro v' w9 hown hgrow hnil
          have HF : Hid (Own w9 w1.heap.size v' L) := hidIt (by unfold Own; rw [HN.out]; simpa using hown)
          have kk := grown_below (show Own (w1.alloc (.cells #[] 46)) w1.heap.size (.slice (some ⟨w1.heap.size, 0, none⟩) 0 0) [] from HE0.out) hgrow (Nat.le_refl _) (by simp)
          have hv : v' ≠ .slice none 0 0 := by first | exact hnil | (intro e; have := (hnil.1 e).1; cases this)
          have HB := hidIt (HB1.out.trans (kk.mono hsz))
          obtain ⟨gl, cp, ev, hcp1, hcp2, hgl1, hgl2⟩ := HF.out.some_form hv
          rw [HN.out] at ev hcp1
          subst ev
          have HO := hidIt (HF.out.mono hsz)
          have hgl3 : w.heap.size ≤ gl := by omega
          clear HF hv kk hown hgrow hnil HC HE0 HB1 HR1 HR hgl1

          have HR9 : Hid (Rd w9 (some ⟨gl, 0, none⟩) L) := hidIt (by
            obtain ⟨a', _, e1, _, _, r, _⟩ := HO.out.form
            rw [(Value.slice.inj e1).1]
            exact r)

          go_wp2_with (fail)
          refine (CL.out gl cp _ HR9.out).mono ?_
          rintro e W1 ⟨rfl, kk⟩
          replace HB := hidIt (HB.out.trans (kk.mono HB.out.size))
          replace HO := hidIt (HO.out.kept kk)
          replace HR9 := hidIt (HR9.out.kept kk)
          have hgl4 : gl < W1.heap.size := Nat.lt_of_lt_of_le hgl2 kk.size
          clear kk

          have HOz := hidIt (HO.out.alloc (.cells #[.int .i64 s, .int .i64 (lf - 1), .int .i64 now] 46))
          have HBz := hidIt (HB.out.alloc HB.out.size (.cells #[.int .i64 s, .int .i64 (lf - 1), .int .i64 now] 46))
          have HRz := hidIt (HR9.out.alloc (.cells #[.int .i64 s, .int .i64 (lf - 1), .int .i64 now] 46))
          have BX := hidIt (Bo.Box.new W1 #[.int .i64 s, .int .i64 (lf - 1), .int .i64 now] 46)
          go_wp2_with (fail)
          refine (CP.out gl cp _ HRz.out).mono ?_
          rintro e W2 ⟨rfl, kk⟩
          replace HBz := hidIt (HBz.out.trans (kk.mono HBz.out.size))
          replace HOz := hidIt (HOz.out.kept kk)
          replace BX := hidIt (BX.out.kept kk)
          have hsz2 : W1.heap.size < W2.heap.size := by have := kk.size; simp at this; omega
          clear kk HO HB HR9 HRz
          have d0 := BX.out.c 0 rfl
          have d1 := BX.out.c 1 rfl
          have d2 := BX.out.c 2 rfl

          go_wp2_with (fail)
          refine bodyPost_ret (v := .tuple #[.slice (some ⟨gl, 0, none⟩) n cp, .bool false]) (by simp [results, Try.results9, go_sem]) rfl ⟨_, rfl, HOz.out, HBz.out⟩
      have ed := D3.out h1 h20 rfl
      subst ed
      have h20' : ((n : Int) == 20) = false := by simp; omega
      have hroom : n < 20 := by omega
      clear h20 D0 D1 D2 D3 PB P1 P2
      obtain ⟨RL, hRL⟩ : ∃ RL, L.take pk ++ (s, lf - 1, now) :: L.drop pk = RL := ⟨_, rfl⟩
      rw [hRL]
      have HI := hidIt hRL
      clear hRL
      cases a with
      | none =>
        have HL0 : Hid (L = []) := hidIt HR.out.none_nil
        have hm0 : n = 0 := by rw [← HN.out, HL0.out]; rfl
        have hc0 := hna rfl
        subst hm0 hc0

        go_enter Try.func9, Try.ntmps9
        go_wp2_with (fail)
        refine CO.out.mono ?_
        rintro e w1 ⟨rfl, kk⟩
        have HB1 := hidIt (kk.alloc kk.size (.cells #[] 46))
        have hsz := kk.size
        have HR1 := hidIt ((HR.out.kept kk).alloc (.cells #[] 46))
        have HE0 : Hid (World.ownsRow (w1.alloc (.cells #[] 46)) w1.heap.size 46 3 (.slice (some ⟨w1.heap.size, 0, none⟩) 0 0) 0 []) := hidIt (by have := Own.new w1; simpa [Own, rcells] using this)
        clear kk CO

        have HO : Hid (Own (w1.alloc (.cells #[] 46)) w.heap.size (.slice (some ⟨w1.heap.size, 0, none⟩) 0 0) L) := hidIt (by rw [HL0.out]; exact (Own.new w1).mono hsz)
        go_wp2_with (fail)
        have HB := HB1
        have hgl2 : w1.heap.size < (w1.alloc (.cells #[] 46)).heap.size := by simp
        have hgl3 : w.heap.size ≤ w1.heap.size := hsz
        obtain ⟨gl, hgl⟩ : ∃ gl, w1.heap.size = gl := ⟨_, rfl⟩
        rw [hgl] at HO hgl2 hgl3 ⊢
        generalize w1.alloc (.cells #[] 46) = w9 at HO HB hgl2 ⊢
        clear HE0 HB1 HR1 HR hgl hsz hna

        have HR9 : Hid (Rd w9 (some ⟨gl, 0, none⟩) L) := hidIt (by
          obtain ⟨a', _, e1, _, _, r, _⟩ := HO.out.form
          rw [(Value.slice.inj e1).1]
          exact r)

        go_wp2_with (fail)
        refine (CL.out gl 0 _ HR9.out).mono ?_
        rintro e W1 ⟨rfl, kk⟩
        replace HB := hidIt (HB.out.trans (kk.mono HB.out.size))
        replace HO := hidIt (HO.out.kept kk)
        replace HR9 := hidIt (HR9.out.kept kk)
        have hgl4 : gl < W1.heap.size := Nat.lt_of_lt_of_le hgl2 kk.size
        clear kk

        have HOz := hidIt (HO.out.alloc (.cells #[.int .i64 s, .int .i64 (lf - 1), .int .i64 now] 46))
        have HBz := hidIt (HB.out.alloc HB.out.size (.cells #[.int .i64 s, .int .i64 (lf - 1), .int .i64 now] 46))
        have HRz := hidIt (HR9.out.alloc (.cells #[.int .i64 s, .int .i64 (lf - 1), .int .i64 now] 46))
        have BX := hidIt (Bo.Box.new W1 #[.int .i64 s, .int .i64 (lf - 1), .int .i64 now] 46)
        go_wp2_with (fail)
        refine (CP.out gl 0 _ HRz.out).mono ?_
        rintro e W2 ⟨rfl, kk⟩
        replace HBz := hidIt (HBz.out.trans (kk.mono HBz.out.size))
        replace HOz := hidIt (HOz.out.kept kk)
        replace BX := hidIt (BX.out.kept kk)
        have hsz2 : W1.heap.size < W2.heap.size := by have := kk.size; simp at this; omega
        clear kk HO HB HR9 HRz
        have d0 := BX.out.c 0 rfl
        have d1 := BX.out.c 1 rfl
        have d2 := BX.out.c 2 rfl

        have CN := hidIt (insert_any w.heap.size (.slice (some ⟨gl, 0, none⟩) 0 0) L pk (s, lf - 1, now) W2 HOz.out (by rw [HN.out]; omega) (by rw [HN.out]; omega) HBz.out.size)
        rw [HI.out] at CN
        go_wp2_with (fail)
        refine CN.out.mono ?_
        rintro e W3 ⟨v, rfl, o5, k5⟩
        have HO5 := hidIt o5
        have HB5 := hidIt ((HBz.out.alloc HBz.out.size (.cells #[.int .i64 s, .int .i64 (lf - 1), .int .i64 now] 46)).trans (grown_below (HOz.out.alloc (.cells #[.int .i64 s, .int .i64 (lf - 1), .int .i64 now] 46)) k5 (Nat.le_refl _) (by have := HBz.out.size; simp; omega)))
        obtain ⟨g5, c5, ev, _⟩ := o5.form
        subst ev
        clear o5 k5 CN
        go_wp2_with (fail)
        refine bodyPost_ret (v := .tuple #[.slice g5 _ c5, .bool true]) (by simp [results, Try.results9, go_sem]) rfl ⟨_, rfl, HO5.out, HB5.out⟩
      | some ad =>
        go_enter Try.func9, Try.ntmps9
        go_wp2_with (fail)
        refine CO.out.mono ?_
        rintro e w1 ⟨rfl, kk⟩
        have HB1 := hidIt (kk.alloc kk.size (.cells #[] 46))
        have hsz := kk.size
        have HR1 := hidIt ((HR.out.kept kk).alloc (.cells #[] 46))
        have HE0 : Hid (World.ownsRow (w1.alloc (.cells #[] 46)) w1.heap.size 46 3 (.slice (some ⟨w1.heap.size, 0, none⟩) 0 0) 0 []) := hidIt (by have := Own.new w1; simpa [Own, rcells] using this)
        clear kk CO

        have HC : Hid (∀ j u, (rcells L)[j]? = some u → (w1.alloc (.cells #[] 46)).cell? (ad.add j) = some u) := hidIt (fun j u hj => by
          have hlt : j < L.length * 3 := by rw [← rcells_length]; exact (List.getElem?_eq_some_iff.1 hj).1
          obtain ⟨b0, o0, e0, _⟩ := HR1.out.cell (j / 3) (by omega)
          cases e0
          exact HR1.out.cells j u hj)
        go_wp2_with (first | (at_builtin; refine wpList_append_own _ rfl _ _ 24 rfl w1.heap.size 46 i0 (.agg #[.int .i64 0, .int .i64 0, .int .i64 0]) 3 24 Try.underlying24 hi0 hz0 hz1 hz2 rfl (by decide) _ _ _ rfl HE0.out ad n cap (rcells L) rfl (by rw [rcells_length, HN.out]) HC.out (rcells_one _) (by unfold maxLen; omega) (by omega) (by simp) ?_) | fail)
        intro v' w9 hown hgrow hnil
        have HF : Hid (Own w9 w1.heap.size v' L) := hidIt (by unfold Own; rw [HN.out]; simpa using hown)
        have kk := grown_below (show Own (w1.alloc (.cells #[] 46)) w1.heap.size (.slice (some ⟨w1.heap.size, 0, none⟩) 0 0) [] from HE0.out) hgrow (Nat.le_refl _) (by simp)
        have hv : v' ≠ .slice none 0 0 := by first | exact hnil | (intro e; have := (hnil.1 e).1; cases this)
        have HB := hidIt (HB1.out.trans (kk.mono hsz))
        obtain ⟨gl, cp, ev, hcp1, hcp2, hgl1, hgl2⟩ := HF.out.some_form hv
        rw [HN.out] at ev hcp1
        subst ev
        have HO := hidIt (HF.out.mono hsz)
        have hgl3 : w.heap.size ≤ gl := by omega
        clear HF hv kk hown hgrow hnil HC HE0 HB1 HR1 HR hgl1

        have HR9 : Hid (Rd w9 (some ⟨gl, 0, none⟩) L) := hidIt (by
          obtain ⟨a', _, e1, _, _, r, _⟩ := HO.out.form
          rw [(Value.slice.inj e1).1]
          exact r)

        go_wp2_with (fail)
        refine (CL.out gl cp _ HR9.out).mono ?_
        rintro e W1 ⟨rfl, kk⟩
        replace HB := hidIt (HB.out.trans (kk.mono HB.out.size))
        replace HO := hidIt (HO.out.kept kk)
        replace HR9 := hidIt (HR9.out.kept kk)
        have hgl4 : gl < W1.heap.size := Nat.lt_of_lt_of_le hgl2 kk.size
        clear kk

        have HOz := hidIt (HO.out.alloc (.cells #[.int .i64 s, .int .i64 (lf - 1), .int .i64 now] 46))
        have HBz := hidIt (HB.out.alloc HB.out.size (.cells #[.int .i64 s, .int .i64 (lf - 1), .int .i64 now] 46))
        have HRz := hidIt (HR9.out.alloc (.cells #[.int .i64 s, .int .i64 (lf - 1), .int .i64 now] 46))
        have BX := hidIt (Bo.Box.new W1 #[.int .i64 s, .int .i64 (lf - 1), .int .i64 now] 46)
        go_wp2_with (fail)
        refine (CP.out gl cp _ HRz.out).mono ?_
        rintro e W2 ⟨rfl, kk⟩
        replace HBz := hidIt (HBz.out.trans (kk.mono HBz.out.size))
        replace HOz := hidIt (HOz.out.kept kk)
        replace BX := hidIt (BX.out.kept kk)
        have hsz2 : W1.heap.size < W2.heap.size := by have := kk.size; simp at this; omega
        clear kk HO HB HR9 HRz
        have d0 := BX.out.c 0 rfl
        have d1 := BX.out.c 1 rfl
        have d2 := BX.out.c 2 rfl

        have CN := hidIt (insert_any w.heap.size (.slice (some ⟨gl, 0, none⟩) n cp) L pk (s, lf - 1, now) W2 HOz.out (by rw [HN.out]; omega) (by rw [HN.out]; omega) HBz.out.size)
        rw [HI.out] at CN
        go_wp2_with (fail)
        refine CN.out.mono ?_
        rintro e W3 ⟨v, rfl, o5, k5⟩
        have HO5 := hidIt o5
        have HB5 := hidIt ((HBz.out.alloc HBz.out.size (.cells #[.int .i64 s, .int .i64 (lf - 1), .int .i64 now] 46)).trans (grown_below (HOz.out.alloc (.cells #[.int .i64 s, .int .i64 (lf - 1), .int .i64 now] 46)) k5 (Nat.le_refl _) (by have := HBz.out.size; simp; omega)))
        obtain ⟨g5, c5, ev, _⟩ := o5.form
        subst ev
        clear o5 k5 CN
        go_wp2_with (fail)
        refine bodyPost_ret (v := .tuple #[.slice g5 _ c5, .bool true]) (by simp [results, Try.results9, go_sem]) rfl ⟨_, rfl, HO5.out, HB5.out⟩
end Go.Proofs.Ytiakongbiajlhaa.Bu
