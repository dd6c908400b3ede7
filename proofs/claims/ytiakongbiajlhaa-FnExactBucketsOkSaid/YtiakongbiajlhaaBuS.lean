/-
  BucketsOk and LeftFor of the specification. (Written by wip/mkBuS.py.)
-/
import Derived.Test.YtiakongbiajlhaaBuP
import Derived.Test.YtiakongbiajlhaaBoxM
import Derived.Test.YtiakongbiajlhaaQuiet
namespace Go.Proofs.Ytiakongbiajlhaa.Bu
open Go.ChangeShapes Go.WideShapes Go.ChangeAt Go.RowKit
open Go.Proofs.Ytiakongbiajlhaa.Rc (BelowBy BelowBy.one wp_region_below calls_below calls_same)
set_option linter.unusedVariables false
set_option maxHeartbeats 2000000 in
theorem spec_l1In (n lo hi : Int) (w : World) : Calls Try.prog 33 #[.int .i64 n, .int .i64 lo, .int .i64 hi] w fun e w' => e = .returned (.bool (inB n lo hi)) ∧ w' = w := by
  unfold inB
  by_cases h : lo ≤ n
  · have h' : decide (lo ≤ n) = true := decide_eq_true h
    rw [h', Bool.true_and]
    go_enter Try.func33, Try.ntmps33
    go_wp2
    go_ret
    exact ⟨rfl, rfl⟩
  · have h' : decide (lo ≤ n) = false := decide_eq_false h
    rw [h', Bool.false_and]
    go_enter Try.func33, Try.ntmps33
    go_wp2
    go_ret
    exact ⟨rfl, rfl⟩
set_option maxHeartbeats 2000000 in
theorem spec_l9Time (n : Int) (w : World) : Calls Try.prog 34 #[.int .i64 n] w fun e w' => e = .returned (.bool (inB n 0 1000000)) ∧ w' = w := by
  have C := hidIt (fun W => spec_l1In n 0 1000000 W)
  go_enter Try.func34, Try.ntmps34
  go_wp2_with (fail)
  refine (C.out _).mono ?_
  rintro e w1 ⟨rfl, rfl⟩
  go_wp2_with (fail)
  go_ret
  exact ⟨rfl, rfl⟩
set_option maxRecDepth 100000 in
set_option maxHeartbeats 4000000 in
theorem spec_BucketsOk (a : Option Addr) (cap : Nat) (L : List Rw) (w : World) (h : Rd w a L) (hl : L.length ≤ 9223372036854775807) :
    Calls Try.prog 15 #[.slice a L.length cap] w fun e w' => e = .returned (.bool (okB L)) ∧ Below w.heap.size w w' := by
  have N1 : Hid (¬ L.length ≤ 20 → okB L = false) := hidIt okB_no1
  have N2 : Hid (∀ i, i < L.length → okX (rat L i) = false → okB L = false) := hidIt (fun i hi h => okB_no2 hi h)
  have N3 : Hid (∀ i, i + 1 < L.length → ¬ sat L i < sat L (i + 1) → okB L = false) := hidIt (fun i hi h => okB_no3 hi h)
  have N4 : Hid (L.length ≤ 20 → (∀ i, i < L.length → okX (rat L i) = true) → (∀ i, i + 1 < L.length → sat L i < sat L (i + 1)) → okB L = true) := hidIt okB_yes
  generalize okB L = r at N1 N2 N3 N4 ⊢
  have HR := hidIt h
  clear h
  generalize hn : L.length = m at *
  have HN := hidIt hn
  clear hn
  by_cases h80 : m ≤ 20
  · have h80' : ¬ (20 : Int) < (m : Int) := by omega
    go_enter Try.func15, Try.ntmps15
    go_wp2_with (fail)
    go_loopw [3] (fun y wx => ∃ i : Nat, y = .int .i64 i ∧ i ≤ m ∧ Hid (∀ j, j < i → okX (rat L j) = true) ∧ Hid (∀ j, j + 1 < i → sat L j < sat L (j + 1)) ∧ Hid (Below w.heap.size w wx)) (fun y _ => (m - intOf y).toNat)
    case atStart => exact ⟨0, rfl, by omega, hidIt (fun j hj => by omega), hidIt (fun j hj => by omega), hidIt (Below.refl _ _)⟩
    case round =>
      obtain ⟨i, rfl, hi, HO, HK, HB⟩ := hrel
      by_cases hin : i < m
      · have hin' : (i : Int) < (m : Int) := by omega
        have HRx := hidIt (HR.out.kept HB.out)
        obtain ⟨b, off, ea, c0, c1, c2⟩ := HRx.out.all (i := i) (by rw [HN.out]; exact hin)
        subst ea
        obtain ⟨ok, hok⟩ : ∃ ok, okX (rat L i) = ok := ⟨_, rfl⟩
        have HOK := hidIt hok
        unfold okX at hok
        have hkey : Hid (sat L i = (rat L i).1) := hidIt rfl
        generalize rat L i = x at c0 c1 c2 hok hkey
        obtain ⟨xi, xt, xs⟩ := x
        simp only at c0 c1 c2 hok hkey
        have C1 := hidIt (fun n lo hi W => spec_l1In n lo hi W)
        have C2 := hidIt (fun n W => spec_l9Time n W)
        obtain ⟨k1, e1⟩ : ∃ k, inB xi 0 99 = k := ⟨_, rfl⟩
        obtain ⟨k2, e2⟩ : ∃ k, inB xt 0 5 = k := ⟨_, rfl⟩
        obtain ⟨k3, e3⟩ : ∃ k, inB xs 0 1000000 = k := ⟨_, rfl⟩
        rw [e1, e2, e3] at hok
        have BX := hidIt (Bo.Box.new wr #[.int .i64 xi, .int .i64 xt, .int .i64 xs] 46)
        have HBz := hidIt (HB.out.alloc HB.out.size (.cells #[.int .i64 xi, .int .i64 xt, .int .i64 xs] 46))
        have HRz := hidIt (HRx.out.alloc (.cells #[.int .i64 xi, .int .i64 xt, .int .i64 xs] 46))
        cases ok with
        | false =>
          have er := N2.out i hin HOK.out
          subst er
          go_wp2_with (fail)
          generalize wr.alloc (.cells #[.int .i64 xi, .int .i64 xt, .int .i64 xs] 46) = wz at BX HBz HRz ⊢
          haveI := BelowBy.one wz
          have g0 := fun p : BelowBy wz => p.cell (BX.out.c 0 rfl)
          have g1 := fun p : BelowBy wz => p.cell (BX.out.c 1 rfl)
          have g2 := fun p : BelowBy wz => p.cell (BX.out.c 2 rfl)
          cases k1 <;> cases k2 <;> cases k3 <;> simp only [Bool.and_true, Bool.and_false, Bool.true_eq_false] at hok
          all_goals
            refine wp_region_below (by kernel_rfl) (by kernel_rfl) ?_
            repeat (go_big_quiet_step (first | (go_at_call 33; refine calls_same (C1.out _ _ _ _)) | (go_at_call 34; refine calls_same (C2.out _ _))))
            refine wpQuiet_nil ?_
            intro _ hw'
            obtain ⟨pq, rfl⟩ := hw'
            have HB1 := hidIt (HBz.out.trans (pq.h.mono HBz.out.size))
            generalize pq.world = w2 at HB1 ⊢
            clear g0 g1 g2
            go_wp2_with (fail)
            go_ret
            exact ⟨rfl, HB1.out⟩
        | true =>
          obtain ⟨rfl, rfl, rfl⟩ : k1 = true ∧ k2 = true ∧ k3 = true := by cases k1 <;> cases k2 <;> cases k3 <;> simp_all
          have HO' : Hid (∀ j, j < i + 1 → okX (rat L j) = true) := hidIt (fun j hj => by
            rcases Nat.lt_succ_iff_lt_or_eq.1 hj with h | h
            · exact HO.out j h
            · subst h; exact HOK.out)
          clear hok
          rcases Nat.eq_zero_or_pos i with hz | hp
          · subst hz
            simp only [Nat.zero_mul, Nat.add_zero] at c0 c1 c2
            go_wp2_with (fail)
            generalize wr.alloc (.cells #[.int .i64 xi, .int .i64 xt, .int .i64 xs] 46) = wz at BX HBz HRz ⊢
            haveI := BelowBy.one wz
            have g0 := fun p : BelowBy wz => p.cell (BX.out.c 0 rfl)
            have g1 := fun p : BelowBy wz => p.cell (BX.out.c 1 rfl)
            have g2 := fun p : BelowBy wz => p.cell (BX.out.c 2 rfl)
            refine wp_region_below (by kernel_rfl) (by kernel_rfl) ?_
            repeat (go_big_quiet_step (first | (go_at_call 33; refine calls_same (C1.out _ _ _ _)) | (go_at_call 34; refine calls_same (C2.out _ _))))
            refine wpQuiet_nil ?_
            intro _ hw'
            obtain ⟨pq, rfl⟩ := hw'
            have HB1 := hidIt (HBz.out.trans (pq.h.mono HBz.out.size))
            generalize pq.world = w2 at HB1 ⊢
            clear g0 g1 g2
            go_wp2_with (fail)
            exact ⟨⟨1, by simp, by omega, HO', hidIt (fun j hj => by omega), HB1⟩, by simp [intOf]; omega⟩
          · obtain ⟨j, rfl⟩ : ∃ j, i = j + 1 := ⟨i - 1, by omega⟩
            have hpos : (0 : Int) < ((j : Int) + 1) := by omega
            have hj8 : (j : Int) ≤ 20 := by omega
            have hj0 : (0 : Int) ≤ (j : Int) := by omega
            obtain ⟨pk, epk⟩ : ∃ pk, (rat L j).1 = pk := ⟨_, rfl⟩
            have hkj : Hid (sat L j = pk) := hidIt epk
            have EPK := hidIt epk
            clear epk
            go_wp2_with (fail)
            generalize wr.alloc (.cells #[.int .i64 xi, .int .i64 xt, .int .i64 xs] 46) = wz at BX HBz HRz ⊢
            haveI := BelowBy.one wz
            have g0 := fun p : BelowBy wz => p.cell (BX.out.c 0 rfl)
            have g1 := fun p : BelowBy wz => p.cell (BX.out.c 1 rfl)
            have g2 := fun p : BelowBy wz => p.cell (BX.out.c 2 rfl)
            obtain ⟨b', off', ea2, q0, _⟩ := HRz.out.all (i := j) (by rw [HN.out]; omega)
            cases ea2
            rw [EPK.out] at q0
            have k0 := fun p : BelowBy wz => p.cell q0
            clear q0
            by_cases hlt : pk < xi
            · have hd : decide (xi ≤ pk) = false := decide_eq_false (by omega)
              have HK' : Hid (∀ q, q + 1 < j + 1 + 1 → sat L q < sat L (q + 1)) := hidIt (fun q hq => by
                rcases Nat.lt_succ_iff_lt_or_eq.1 (show q + 1 < j + 1 + 1 from hq) with h | h
                · exact HK.out q h
                · have : q = j := by omega
                  subst this
                  rw [hkj.out, hkey.out]
                  exact hlt)
              clear hlt
              refine wp_region_below (by kernel_rfl) (by kernel_rfl) ?_
              repeat (go_big_quiet_step (first | (go_at_call 33; refine calls_same (C1.out _ _ _ _)) | (go_at_call 34; refine calls_same (C2.out _ _))))
              refine wpQuiet_nil ?_
              intro _ hw'
              obtain ⟨pq, rfl⟩ := hw'
              have HB1 := hidIt (HBz.out.trans (pq.h.mono HBz.out.size))
              generalize pq.world = w2 at HB1 ⊢
              clear g0 g1 g2 k0
              go_wp2_with (fail)
              exact ⟨⟨j + 1 + 1, by simp, by omega, HO', HK', HB1⟩, by simp [intOf]; omega⟩
            · have er := N3.out j (by omega) (by rw [hkj.out, hkey.out]; omega)
              have hd : decide (xi ≤ pk) = true := decide_eq_true (by omega)
              subst er
              clear hlt
              refine wp_region_below (by kernel_rfl) (by kernel_rfl) ?_
              repeat (go_big_quiet_step (first | (go_at_call 33; refine calls_same (C1.out _ _ _ _)) | (go_at_call 34; refine calls_same (C2.out _ _))))
              refine wpQuiet_nil ?_
              intro _ hw'
              obtain ⟨pq, rfl⟩ := hw'
              have HB1 := hidIt (HBz.out.trans (pq.h.mono HBz.out.size))
              generalize pq.world = w2 at HB1 ⊢
              clear g0 g1 g2 k0
              go_wp2_with (fail)
              go_ret
              exact ⟨rfl, HB1.out⟩
      · have hin' : ¬ (i : Int) < (m : Int) := by omega
        have HI : Hid (i = m) := hidIt (by omega)
        have er := N4.out h80 (fun j hj => HO.out j (by have := HI.out; omega)) (fun j hj => HK.out j (by have := HI.out; omega))
        subst er
        go_wp2_with (fail)
        go_ret
        exact ⟨rfl, HB.out⟩
  · have h80' : (20 : Int) < (m : Int) := by omega
    have er := N1.out h80
    subst er
    go_enter Try.func15, Try.ntmps15
    go_wp2
    go_ret
    exact ⟨rfl, Below.refl _ _⟩

def bi : Option Nat → Int
  | none => -1
  | some j => j
set_option maxRecDepth 100000 in
set_option maxHeartbeats 4000000 in
theorem spec_l15At (a : Option Addr) (cap : Nat) (L : List Rw) (s : Int) (w : World) (h : Rd w a L) (hl : L.length ≤ 9223372036854775806) :
    Calls Try.prog 41 #[.slice a L.length cap, .int .i64 s] w fun e w' => e = .returned (.int .i64 (bi (bat L s))) ∧ w' = w := by
  have N1 : Hid (∀ j, j < L.length → sat L j = s → (∀ i, i < j → sat L i ≠ s) → bat L s = some j) := hidIt (fun j hj hs hf => bat_first hj hs hf)
  have N2 : Hid ((∀ i, i < L.length → sat L i ≠ s) → bat L s = none) := hidIt bat_no
  generalize bat L s = r at N1 N2 ⊢
  have HR := hidIt h
  clear h
  generalize hn : L.length = m at *
  have HN := hidIt hn
  clear hn
  go_enter Try.func41, Try.ntmps41
  go_wp2_with (fail)
  go_loopw [5] (fun y wx => ∃ i : Nat, y = .int .i64 i ∧ i ≤ m ∧ Hid (∀ j, j < i → sat L j ≠ s) ∧ wx = w) (fun y _ => (m - intOf y).toNat)
  case atStart => exact ⟨0, rfl, by omega, hidIt (fun j hj => by omega), rfl⟩
  case round =>
    obtain ⟨i, rfl, hi, HE, rfl⟩ := hrel
    by_cases hin : i < m
    · have hin' : (i : Int) < (m : Int) := by omega
      obtain ⟨b, off, ea, c0, c1, c2⟩ := HR.out.all (i := i) (by rw [HN.out]; exact hin)
      subst ea
      have N1i := hidIt (N1.out i hin)
      have HE' : Hid (sat L i ≠ s → ∀ j, j < i + 1 → sat L j ≠ s) := hidIt (fun g j hj => by
        rcases Nat.lt_succ_iff_lt_or_eq.1 hj with h | h
        · exact HE.out j h
        · subst h; exact g)
      have hk : Hid (sat L i = (rat L i).1) := hidIt rfl
      rw [hk.out] at N1i HE'
      clear hk
      generalize (rat L i).1 = x at c0 N1i HE'
      by_cases hx : x = s
      · have hb : (x == s) = true := by simpa using hx
        have er := N1i.out hx HE.out
        subst er
        clear hx
        go_wp2_with (fail)
        go_ret
        exact ⟨rfl, rfl⟩
      · have hb : (x == s) = false := by simpa using hx
        have HE2 := hidIt (HE'.out hx)
        clear hx
        go_wp2_with (fail)
        first
          | exact ⟨⟨i + 1, by simp, by omega, HE2⟩, by simp [intOf]; omega⟩
          | exact ⟨⟨i + 1, by simp, by omega, HE2, trivial⟩, by simp [intOf]; omega⟩
    · have hin' : ¬ (i : Int) < (m : Int) := by omega
      have er := N2.out (fun j hj => HE.out j (by omega))
      subst er
      go_wp2_with (fail)
      go_ret
      exact ⟨rfl, rfl⟩
set_option maxHeartbeats 2000000 in
theorem spec_l1Min (a b : Int) (w : World) : Calls Try.prog 42 #[.int .i64 a, .int .i64 b] w fun e w' => e = .returned (.int .i64 (min a b)) ∧ w' = w := by
  by_cases h : a < b
  · rw [Int.min_eq_left (by omega)]
    go_enter Try.func42, Try.ntmps42
    go_wp2
    go_ret
    exact ⟨rfl, rfl⟩
  · rw [Int.min_eq_right (by omega)]
    go_enter Try.func42, Try.ntmps42
    go_wp2
    go_ret
    exact ⟨rfl, rfl⟩
set_option maxRecDepth 100000 in
set_option maxHeartbeats 4000000 in
theorem spec_l15Left (a : Option Addr) (cap : Nat) (L : List Rw) (s now : Int) (w : World) (h : Rd w a L) (hok : okB L = true) :
    Calls Try.prog 31 #[.slice a L.length cap, .int .i64 s, .int .i64 now] w fun e w' => e = .returned (.int .i64 (leftR L s now)) ∧ Below w.heap.size w w' := by
  have hl := okB_len hok
  have C1 := hidIt (fun W => spec_l1In s 0 99 W)
  have C2 := hidIt (fun W => spec_l9Time now W)
  have C3 := hidIt (fun W (r : Rd W a L) => spec_l15At a cap L s W r (by omega))
  have C4 := hidIt (fun n W => spec_l1Min 5 n W)
  have HR := hidIt h
  have N1 : Hid ((inB s 0 99 && inB now 0 1000000) = false → leftR L s now = -1) := hidIt left_range
  have N2 : Hid ((inB s 0 99 && inB now 0 1000000) = true → bat L s = none → leftR L s now = 5) := hidIt left_new
  have N3 : Hid (∀ j, (inB s 0 99 && inB now 0 1000000) = true → bat L s = some j → now < (rat L j).2.2 → leftR L s now = -1) := hidIt (fun j => left_late)
  have N4 : Hid (∀ j, (inB s 0 99 && inB now 0 1000000) = true → bat L s = some j → ¬ now < (rat L j).2.2 → leftR L s now = min 5 ((rat L j).2.1 + now - (rat L j).2.2)) := hidIt (fun j => left_old)
  have N5 : Hid (∀ j, bat L s = some j → j < L.length) := hidIt (fun j e => (bat_some e).1)
  have N6 : Hid (∀ j, j < L.length → okX (rat L j) = true) := hidIt (fun j hj => okB_at hok hj)
  have N7 : Hid (inB now 0 1000000 = true → 0 ≤ now ∧ now ≤ 1000000) := hidIt inB_to
  generalize leftR L s now = r at N1 N2 N3 N4 ⊢
  clear h hok
  generalize hn : L.length = m at *
  have HN := hidIt hn
  clear hn
  generalize inB s 0 99 = k1 at C1 N1 N2 N3 N4
  generalize inB now 0 1000000 = k2 at C2 N1 N2 N3 N4 N7
  cases k1 with
  | false =>
    have er := N1.out rfl
    subst er
    go_enter Try.func31, Try.ntmps31
    go_wp2_with (first | (go_at_call 33; refine (C1.out _).mono ?_; rintro e w' ⟨rfl, ew⟩; rw [ew]; clear ew w') | fail)
    go_ret
    exact ⟨rfl, Below.refl _ _⟩
  | true =>
    cases k2 with
    | false =>
      have er := N1.out rfl
      subst er
      go_enter Try.func31, Try.ntmps31
      go_wp2_with (first | (go_at_call 33; refine (C1.out _).mono ?_; rintro e w' ⟨rfl, ew⟩; rw [ew]; clear ew w') | (go_at_call 34; refine (C2.out _).mono ?_; rintro e w' ⟨rfl, ew⟩; rw [ew]; clear ew w') | fail)
      go_ret
      exact ⟨rfl, Below.refl _ _⟩
    | true =>
      have hnow := N7.out rfl
      cases hb : bat L s with
      | none =>
        rw [hb] at C3 N2
        have er := N2.out rfl rfl
        subst er
        have hneg : bi none < 0 := by decide
        clear hb
        go_enter Try.func31, Try.ntmps31
        go_wp2_with (first | (go_at_call 33; refine (C1.out _).mono ?_; rintro e w' ⟨rfl, ew⟩; rw [ew]; clear ew w') | (go_at_call 34; refine (C2.out _).mono ?_; rintro e w' ⟨rfl, ew⟩; rw [ew]; clear ew w') | (go_at_call 41; refine (C3.out _ HR.out).mono ?_; rintro e w' ⟨rfl, ew⟩; rw [ew]; clear ew w') | fail)
        go_ret
        exact ⟨rfl, Below.refl _ _⟩
      | some j =>
        have hj := N5.out j hb
        have hx := N6.out j hj
        have N3' := hidIt (N3.out j rfl hb)
        have N4' := hidIt (N4.out j rfl hb)
        rw [hb] at C3
        clear hb N1 N2 N3 N4 N5 N6 N7
        obtain ⟨b, off, ea, c0, c1, c2⟩ := HR.out.all (i := j) (by rw [HN.out]; exact hj)
        subst ea
        generalize rat L j = x at c0 c1 c2 hx N3' N4'
        obtain ⟨x0, x1, x2⟩ := x
        obtain ⟨_, hx1, hx2⟩ := okX_to hx
        simp only at c0 c1 c2 N3' N4' hx1 hx2
        clear hx
        have hbi : bi (some j) = (j : Int) := rfl
        rw [hbi] at C3
        have hneg : ¬ (j : Int) < 0 := by omega
        have hjm : (j : Int) < (m : Int) := by omega
        by_cases hlt : now < x2
        · have er := N3'.out hlt
          subst er
          go_enter Try.func31, Try.ntmps31
          go_wp2_with (first | (go_at_call 33; refine (C1.out _).mono ?_; rintro e w' ⟨rfl, ew⟩; rw [ew]; clear ew w') | (go_at_call 34; refine (C2.out _).mono ?_; rintro e w' ⟨rfl, ew⟩; rw [ew]; clear ew w') | (go_at_call 41; refine (C3.out _ HR.out).mono ?_; rintro e w' ⟨rfl, ew⟩; rw [ew]; clear ew w') | fail)
          go_ret
          exact ⟨rfl, Below.refl _ _⟩
        · have er := N4'.out hlt
          subst er
          have C5 := hidIt (fun W => C4.out (x1 + now - x2) W)
          have gw1 : IntKind.i64.wrap (x1 + now) = x1 + now := by rw [IntKind.wrap_i64]; omega
          have gw2 : IntKind.i64.wrap (x1 + now - x2) = x1 + now - x2 := by rw [IntKind.wrap_i64]; omega
          have g0 : (0 : Int) ≤ (j : Int) := by omega
          have HB0 := hidIt (Below.refl w.heap.size w)
          go_enter Try.func31, Try.ntmps31
          go_wp2_with (first | (go_at_call 33; refine (C1.out _).mono ?_; rintro e w' ⟨rfl, ew⟩; rw [ew]; clear ew w') | (go_at_call 34; refine (C2.out _).mono ?_; rintro e w' ⟨rfl, ew⟩; rw [ew]; clear ew w') | (go_at_call 41; refine (C3.out _ HR.out).mono ?_; rintro e w' ⟨rfl, ew⟩; rw [ew]; clear ew w') | fail)
          haveI := BelowBy.one w
          have q1 := fun p : BelowBy w => p.cell c1
          have q2 := fun p : BelowBy w => p.cell c2
          refine wp_region_below (by kernel_rfl) (by kernel_rfl) ?_
          repeat (go_big_quiet_step (first | (go_at_call 42; refine calls_same (C5.out _))))
          refine wpQuiet_nil ?_
          intro _ hw'
          obtain ⟨pq, rfl⟩ := hw'
          have HB1 := hidIt pq.h
          generalize pq.world = w2 at HB1 ⊢
          clear q1 q2
          go_wp2_with (fail)
          go_ret
          exact ⟨rfl, HB1.out⟩
set_option maxRecDepth 100000 in
set_option maxHeartbeats 4000000 in
theorem spec_LeftFor (a : Option Addr) (cap : Nat) (L : List Rw) (s now : Int) (w : World) (h : Rd w a L) (hl : L.length ≤ 9223372036854775807) :
    Calls Try.prog 13 #[.slice a L.length cap, .int .i64 s, .int .i64 now] w fun e w' => e = .returned (.int .i64 (leftForR L s now)) ∧ Below w.heap.size w w' := by
  have CO := hidIt (spec_BucketsOk a cap L w h hl)
  have HR := hidIt h
  unfold leftForR
  cases ho : okB L with
  | false =>
    rw [ho] at CO
    clear h ho
    generalize L.length = m at *
    go_enter Try.func13, Try.ntmps13
    go_wp2_with (fail)
    refine CO.out.mono ?_
    rintro e w1 ⟨rfl, kk⟩
    have HB := hidIt kk
    clear kk
    go_wp2_with (fail)
    go_ret
    exact ⟨rfl, HB.out⟩
  | true =>
    rw [ho] at CO
    have CL := hidIt (fun W (r : Rd W a L) => spec_l15Left a cap L s now W r ho)
    rw [if_pos rfl]
    generalize leftR L s now = n at CL ⊢
    clear h ho
    generalize L.length = m at *
    go_enter Try.func13, Try.ntmps13
    go_wp2_with (fail)
    refine CO.out.mono ?_
    rintro e w1 ⟨rfl, kk⟩
    have HB := hidIt kk
    clear kk
    go_wp2_with (fail)
    refine (CL.out _ (HR.out.kept HB.out)).mono ?_
    rintro e w2 ⟨rfl, kk⟩
    replace HB := hidIt (HB.out.trans (kk.mono HB.out.size))
    clear kk
    go_wp2_with (fail)
    go_ret
    exact ⟨rfl, HB.out⟩
end Go.Proofs.Ytiakongbiajlhaa.Bu
