/-
  l15Draw and Drawn of the specification. (Written by wip/mkBuW.py.)
  The program's side of chapter 15: sourceOk, timeOk, bucketOk, bucketPlace, BucketsOk, LeftFor, Drawn. (Written by wip/mkBuX.py.)
  NewRoll, Step and Signing of the specification, in plain words.
  secretOk and timeOk of the program; the three shapes of a Roll; shapeOf, signerOf, RollOk, NewRoll and Signing of the program.
  signerOf, RollOk, NewRoll and Signing of the program; which shape a value has.
-/
import Derived.Test.YtceddedlfdgbhaaGreatDoorBun3
import Derived.Test.YtceddedlfdgbhaaGreatDoorBun10
import Derived.Test.YtceddedlfdgbhaaGreatDoorBun2
import Derived.Test.YtceddedlfdgbhaaGreatDoorBoxM
import Derived.Test.YtceddedlfdgbhaaGreatDoorQuiet
import Derived.WalkMore
import Derived.Test.YtceddedlfdgbhaaGreatDoorRollM
import Derived.Handy
import Derived.WideLaws
namespace Go.Proofs.YtceddedlfdgbhaaGreatDoor.Bu
open Go.ChangeShapes Go.WideShapes Go.ChangeAt Go.RowKit
open Go.Proofs.YtceddedlfdgbhaaGreatDoor.Rg (upd waits wp_region_inv op_at)
set_option linter.unusedVariables false
theorem box_cells {w : World} {bl : Nat} {b : Rw} (x : Bo.Box w bl (rc b)) : ∀ j u, (rcells [b])[j]? = some u → w.cell? ((⟨bl, 0, none⟩ : Addr).add j) = some u := by
  intro j u hj
  match j, hj with
  | 0, hj => simp [rcells] at hj; subst hj; rw [Go.WideShapes.add_plain]; exact x.c 0 rfl
  | 1, hj => simp [rcells] at hj; subst hj; rw [Go.WideShapes.add_plain]; exact x.c 1 rfl
  | 2, hj => simp [rcells] at hj; subst hj; rw [Go.WideShapes.add_plain]; exact x.c 2 rfl
  | j + 3, hj => simp [rcells] at hj
end Go.Proofs.YtceddedlfdgbhaaGreatDoor.Bu
namespace Go.Proofs.YtceddedlfdgbhaaGreatDoor.Bu
open Go.ChangeShapes Go.WideShapes Go.ChangeAt Go.RowKit
open Go.Proofs.YtceddedlfdgbhaaGreatDoor.Rc (BelowBy BelowBy.one wp_region_below calls_below calls_same)
set_option linter.unusedVariables false
set_option maxHeartbeats 2000000 in
theorem impl_sourceOk (n : Int) (w : World) : Calls Tryz.prog 96 #[.int .i64 n] w fun e w' => e = .returned (.bool (inB n 0 99)) ∧ w' = w := by
  unfold inB
  by_cases h : (0 : Int) ≤ n
  · have h' : decide ((0 : Int) ≤ n) = true := decide_eq_true h
    rw [h', Bool.true_and]
    go_enter Tryz.func96, Tryz.ntmps96
    go_wp2
    go_ret
    exact ⟨rfl, rfl⟩
  · have h' : decide ((0 : Int) ≤ n) = false := decide_eq_false h
    rw [h', Bool.false_and]
    go_enter Tryz.func96, Tryz.ntmps96
    go_wp2
    go_ret
    exact ⟨rfl, rfl⟩
set_option maxHeartbeats 2000000 in
theorem impl_timeOk (n : Int) (w : World) : Calls Tryz.prog 25 #[.int .i64 n] w fun e w' => e = .returned (.bool (inB n 0 1000000)) ∧ w' = w := by
  unfold inB
  by_cases h : (0 : Int) ≤ n
  · have h' : decide ((0 : Int) ≤ n) = true := decide_eq_true h
    rw [h', Bool.true_and]
    go_enter Tryz.func25, Tryz.ntmps25
    go_wp2
    go_ret
    exact ⟨rfl, rfl⟩
  · have h' : decide ((0 : Int) ≤ n) = false := decide_eq_false h
    rw [h', Bool.false_and]
    go_enter Tryz.func25, Tryz.ntmps25
    go_wp2
    go_ret
    exact ⟨rfl, rfl⟩
set_option maxRecDepth 100000 in
set_option maxHeartbeats 4000000 in
theorem impl_bucketOk (x : Rw) (w : World) : Calls Tryz.prog 84 #[rv x] w fun e w' => e = .returned (.bool (okX x)) ∧ Below w.heap.size w w' := by
  obtain ⟨x0, x1, x2⟩ := x
  have C1 := hidIt (fun n W => impl_sourceOk n W)
  have C2 := hidIt (fun n W => impl_timeOk n W)
  have HB := hidIt ((Below.refl w.heap.size w).alloc (Nat.le_refl _) (.cells #[.int .i64 x0, .int .i64 x1, .int .i64 x2] 104))
  have BX := hidIt (Bo.Box.new w #[.int .i64 x0, .int .i64 x1, .int .i64 x2] 104)
  have hr : okX (x0, x1, x2) = (inB x0 0 99 && ((decide (0 ≤ x1) && decide (x1 ≤ 5)) && inB x2 0 1000000)) := rfl
  rw [hr]
  clear hr
  have c0 := BX.out.c 0 rfl
  have c1 := BX.out.c 1 rfl
  have c2 := BX.out.c 2 rfl
  cases hk : inB x0 0 99 with
  | false =>
    go_enter Tryz.func84, Tryz.ntmps84
    go_wp2_with (first | (go_at_call 96; refine (C1.out _ _).mono ?_; rintro e w' ⟨rfl, ew⟩; rw [ew, hk]; clear ew w') | fail)
    go_ret
    exact ⟨rfl, HB.out⟩
  | true =>
    by_cases h1 : (0 : Int) ≤ x1
    · by_cases h2 : x1 ≤ 5
      · have e1 : decide ((0 : Int) ≤ x1) = true := decide_eq_true h1
        have e2 : decide (x1 ≤ 5) = true := decide_eq_true h2
        rw [e1, e2]
        generalize hq : inB x2 0 1000000 = k3
        go_enter Tryz.func84, Tryz.ntmps84
        go_wp2_with (first | (go_at_call 96; refine (C1.out _ _).mono ?_; rintro e w' ⟨rfl, ew⟩; rw [ew, hk]; clear ew w') | (go_at_call 25; refine (C2.out _ _).mono ?_; rintro e w' ⟨rfl, ew⟩; rw [ew, hq]; clear ew w') | fail)
        go_ret
        exact ⟨rfl, HB.out⟩
      · have e1 : decide ((0 : Int) ≤ x1) = true := decide_eq_true h1
        have e2 : decide (x1 ≤ 5) = false := decide_eq_false h2
        rw [e1, e2]
        go_enter Tryz.func84, Tryz.ntmps84
        go_wp2_with (first | (go_at_call 96; refine (C1.out _ _).mono ?_; rintro e w' ⟨rfl, ew⟩; rw [ew, hk]; clear ew w') | fail)
        go_ret
        exact ⟨rfl, HB.out⟩
    · have e1 : decide ((0 : Int) ≤ x1) = false := decide_eq_false h1
      rw [e1]
      go_enter Tryz.func84, Tryz.ntmps84
      go_wp2_with (first | (go_at_call 96; refine (C1.out _ _).mono ?_; rintro e w' ⟨rfl, ew⟩; rw [ew, hk]; clear ew w') | fail)
      go_ret
      exact ⟨rfl, HB.out⟩
/-- Where a Source stands, or would. -/
def plcR (L : List Rw) (s : Int) : Nat × Bool := match bat L s with
  | some j => (j, true)
  | none => (plc L s, false)
set_option maxRecDepth 100000 in
set_option maxHeartbeats 4000000 in
theorem impl_BucketsOk (a : Option Addr) (cap : Nat) (L : List Rw) (w : World) (h : Rd w a L) (hl : L.length ≤ 9223372036854775807) :
    Calls Tryz.prog 66 #[.slice a L.length cap] w fun e w' => e = .returned (.bool (okB L)) ∧ Below w.heap.size w w' := by
  have N1 : Hid (¬ L.length ≤ 20 → okB L = false) := hidIt okB_no1
  have N2 : Hid (∀ i, i < L.length → okX (rat L i) = false → okB L = false) := hidIt (fun i hi h => okB_no2 hi h)
  have N3 : Hid (∀ i, i + 1 < L.length → ¬ sat L i < sat L (i + 1) → okB L = false) := hidIt (fun i hi h => okB_no3 hi h)
  have N4 : Hid (L.length ≤ 20 → (∀ i, i < L.length → okX (rat L i) = true) → (∀ i, i + 1 < L.length → sat L i < sat L (i + 1)) → okB L = true) := hidIt okB_yes
  generalize okB L = r at N1 N2 N3 N4 ⊢
  have HR := hidIt h
  clear h
  generalize hn : L.length = m at *
  have HN := hidIt hn
  clear hn
  by_cases h80 : m ≤ 20
  · have h80' : ¬ (20 : Int) < (m : Int) := by omega
    go_enter Tryz.func66, Tryz.ntmps66
    go_wp2_with (fail)
    go_loopw [10] (fun y wx => ∃ i : Nat, y = .int .i64 i ∧ i ≤ m ∧ Hid (∀ j, j < i → okX (rat L j) = true) ∧ Hid (∀ j, j + 1 < i → sat L j < sat L (j + 1)) ∧ Hid (Below w.heap.size w wx)) (fun y _ => (m - intOf y).toNat)
    case atStart => exact ⟨0, rfl, by omega, hidIt (fun j hj => by omega), hidIt (fun j hj => by omega), hidIt (Below.refl _ _)⟩
    case round =>
      obtain ⟨i, rfl, hi, HO, HK, HB⟩ := hrel
      by_cases hin : i < m
      · have hin' : (i : Int) < (m : Int) := by omega
        have HRx := hidIt (HR.out.kept HB.out)
        obtain ⟨b, off, ea, c0, c1, c2⟩ := HRx.out.all (i := i) (by rw [HN.out]; exact hin)
        subst ea
        have CB := hidIt (fun W => impl_bucketOk (rat L i) W)
        obtain ⟨ok, hok⟩ : ∃ ok, okX (rat L i) = ok := ⟨_, rfl⟩
        have HOK := hidIt hok
        rw [hok] at CB
        clear hok
        have hkey : Hid (sat L i = (rat L i).1) := hidIt rfl
        generalize rat L i = x at c0 c1 c2 CB hkey
        obtain ⟨x0, x1, x2⟩ := x
        simp only at c0 c1 c2 CB hkey
        have BX := hidIt (Bo.Box.new wr #[.int .i64 x0, .int .i64 x1, .int .i64 x2] 104)
        have HBz := hidIt (HB.out.alloc HB.out.size (.cells #[.int .i64 x0, .int .i64 x1, .int .i64 x2] 104))
        have HRz := hidIt (HRx.out.alloc (.cells #[.int .i64 x0, .int .i64 x1, .int .i64 x2] 104))
        cases ok with
        | false =>
          have er := N2.out i hin HOK.out
          subst er
          go_wp2_with (fail)
          generalize wr.alloc (.cells #[.int .i64 x0, .int .i64 x1, .int .i64 x2] 104) = wz at BX HBz HRz ⊢
          haveI := BelowBy.one wz
          have g0 := fun p : BelowBy wz => p.cell (BX.out.c 0 rfl)
          have g1 := fun p : BelowBy wz => p.cell (BX.out.c 1 rfl)
          have g2 := fun p : BelowBy wz => p.cell (BX.out.c 2 rfl)
          refine wp_region_below (by kernel_rfl) (by kernel_rfl) ?_
          repeat (go_big_quiet_step (first | (go_at_call 84; refine calls_below (CB.out _))))
          refine wpQuiet_nil ?_
          intro _ hw'
          obtain ⟨pq, rfl⟩ := hw'
          have HB1 := hidIt (HBz.out.trans (pq.h.mono HBz.out.size))
          generalize pq.world = w2 at HB1 ⊢
          clear g0 g1 g2
          go_wp2_with (fail)
          go_ret
          exact ⟨rfl, HB1.out⟩
        | true =>
          have HO' : Hid (∀ j, j < i + 1 → okX (rat L j) = true) := hidIt (fun j hj => by
            rcases Nat.lt_succ_iff_lt_or_eq.1 hj with h | h
            · exact HO.out j h
            · subst h; exact HOK.out)
          rcases Nat.eq_zero_or_pos i with hz | hp
          · subst hz
            simp only [Nat.zero_mul, Nat.add_zero] at c0 c1 c2
            go_wp2_with (fail)
            generalize wr.alloc (.cells #[.int .i64 x0, .int .i64 x1, .int .i64 x2] 104) = wz at BX HBz HRz ⊢
            haveI := BelowBy.one wz
            have g0 := fun p : BelowBy wz => p.cell (BX.out.c 0 rfl)
            have g1 := fun p : BelowBy wz => p.cell (BX.out.c 1 rfl)
            have g2 := fun p : BelowBy wz => p.cell (BX.out.c 2 rfl)
            refine wp_region_below (by kernel_rfl) (by kernel_rfl) ?_
            repeat (go_big_quiet_step (first | (go_at_call 84; refine calls_below (CB.out _))))
            refine wpQuiet_nil ?_
            intro _ hw'
            obtain ⟨pq, rfl⟩ := hw'
            have HB1 := hidIt (HBz.out.trans (pq.h.mono HBz.out.size))
            generalize pq.world = w2 at HB1 ⊢
            clear g0 g1 g2
            go_wp2_with (fail)
            exact ⟨⟨1, by simp, by omega, HO', hidIt (fun j hj => by omega), HB1⟩, by simp [intOf]; omega⟩
          · obtain ⟨j, rfl⟩ : ∃ j, i = j + 1 := ⟨i - 1, by omega⟩
            have hpos : (0 : Int) < ((j : Int) + 1) := by omega
            have hj8 : (j : Int) ≤ 20 := by omega
            have hj0 : (0 : Int) ≤ (j : Int) := by omega
            obtain ⟨pk, epk⟩ : ∃ pk, (rat L j).1 = pk := ⟨_, rfl⟩
            have hkj : Hid (sat L j = pk) := hidIt epk
            have EPK := hidIt epk
            clear epk
            go_wp2_with (fail)
            generalize wr.alloc (.cells #[.int .i64 x0, .int .i64 x1, .int .i64 x2] 104) = wz at BX HBz HRz ⊢
            haveI := BelowBy.one wz
            have g0 := fun p : BelowBy wz => p.cell (BX.out.c 0 rfl)
            have g1 := fun p : BelowBy wz => p.cell (BX.out.c 1 rfl)
            have g2 := fun p : BelowBy wz => p.cell (BX.out.c 2 rfl)
            obtain ⟨b', off', ea2, q0, _⟩ := HRz.out.all (i := j) (by rw [HN.out]; omega)
            cases ea2
            rw [EPK.out] at q0
            have k0 := fun p : BelowBy wz => p.cell q0
            clear q0
            by_cases hlt : pk < x0
            · have hd : decide (x0 ≤ pk) = false := decide_eq_false (by omega)
              have HK' : Hid (∀ q, q + 1 < j + 1 + 1 → sat L q < sat L (q + 1)) := hidIt (fun q hq => by
                rcases Nat.lt_succ_iff_lt_or_eq.1 (show q + 1 < j + 1 + 1 from hq) with h | h
                · exact HK.out q h
                · have : q = j := by omega
                  subst this
                  rw [hkj.out, hkey.out]
                  exact hlt)
              clear hlt
              refine wp_region_below (by kernel_rfl) (by kernel_rfl) ?_
              repeat (go_big_quiet_step (first | (go_at_call 84; refine calls_below (CB.out _))))
              refine wpQuiet_nil ?_
              intro _ hw'
              obtain ⟨pq, rfl⟩ := hw'
              have HB1 := hidIt (HBz.out.trans (pq.h.mono HBz.out.size))
              generalize pq.world = w2 at HB1 ⊢
              clear g0 g1 g2 k0
              go_wp2_with (fail)
              exact ⟨⟨j + 1 + 1, by simp, by omega, HO', HK', HB1⟩, by simp [intOf]; omega⟩
            · have er := N3.out j (by omega) (by rw [hkj.out, hkey.out]; omega)
              have hd : decide (x0 ≤ pk) = true := decide_eq_true (by omega)
              subst er
              clear hlt
              refine wp_region_below (by kernel_rfl) (by kernel_rfl) ?_
              repeat (go_big_quiet_step (first | (go_at_call 84; refine calls_below (CB.out _))))
              refine wpQuiet_nil ?_
              intro _ hw'
              obtain ⟨pq, rfl⟩ := hw'
              have HB1 := hidIt (HBz.out.trans (pq.h.mono HBz.out.size))
              generalize pq.world = w2 at HB1 ⊢
              clear g0 g1 g2 k0
              go_wp2_with (fail)
              go_ret
              exact ⟨rfl, HB1.out⟩
      · have hin' : ¬ (i : Int) < (m : Int) := by omega
        have HI : Hid (i = m) := hidIt (by omega)
        have er := N4.out h80 (fun j hj => HO.out j (by have := HI.out; omega)) (fun j hj => HK.out j (by have := HI.out; omega))
        subst er
        go_wp2_with (fail)
        go_ret
        exact ⟨rfl, HB.out⟩
  · have h80' : (20 : Int) < (m : Int) := by omega
    have er := N1.out h80
    subst er
    go_enter Tryz.func66, Tryz.ntmps66
    go_wp2
    go_ret
    exact ⟨rfl, Below.refl _ _⟩
end Go.Proofs.YtceddedlfdgbhaaGreatDoor.Bu
namespace Go.Proofs.YtceddedlfdgbhaaGreatDoor.Ro
open Go.ChangeShapes Go.WideShapes Go.ChangeAt Go.RowKit
set_option linter.unusedVariables false
abbrev R5 := Int × Int × Int × Int × Int
abbrev rvt (x : R5) : Value := rv x.1 x.2.1 x.2.2.1 x.2.2.2.1 x.2.2.2.2
def newR (m o a : Int) : R5 × Bool := if rollOk 1 m o 0 a = true then ((1, m, o, 0, a), true) else ((0, 0, 0, 0, 0), false)
def stepR (p m o n a now fr : Int) : R5 × Bool :=
  if rollOk p m o n a = false then ((0, 0, 0, 0, 0), false)
  else if timB now = false ∨ now < a + 100 then ((p, m, o, n, a), false)
  else if p = 1 then (if secB fr = false ∨ fr = o ∨ fr = m then ((p, m, o, n, a), false) else ((2, m, o, fr, now), true))
  else if p = 2 then ((3, m, o, n, now), true)
  else ((1, m, n, 0, now), true)
def signR (p m o n a : Int) : Int := if rollOk p m o n a = false then 0 else if p = 3 then n else o
theorem roll_time {p m o n a : Int} (h : rollOk p m o n a = true) : 0 ≤ a ∧ a ≤ 1000000 := by
  unfold rollOk rollB timB inB at h
  simp only [Bool.and_eq_true, decide_eq_true_eq] at h
  exact h.2.2.1
end Go.Proofs.YtceddedlfdgbhaaGreatDoor.Ro
namespace Go.Proofs.YtceddedlfdgbhaaGreatDoor.Ro
open Go.ChangeShapes Go.WideShapes Go.ChangeAt Go.RowKit
set_option linter.unusedVariables false
theorem impl_secretOk (n : Int) (w : World) : Calls Tryz.prog 95 #[.int .i64 n] w fun e w' => e = .returned (.bool (secB n)) ∧ w' = w := by
  have e2 : decide (n < 2549) = decide (n ≤ 2548) := decide_eq_decide.2 (by omega)
  unfold secB inB
  by_cases h : 1 ≤ n
  · have h' : decide (1 ≤ n) = true := decide_eq_true h
    have h'' : (0 : Int) < n := by omega
    rw [h', Bool.true_and]
    go_enter Tryz.func95, Tryz.ntmps95
    go_wp2
    go_ret
    first | exact ⟨rfl, rfl⟩ | exact ⟨by rw [← e2]; rfl, rfl⟩
  · have h' : decide (1 ≤ n) = false := decide_eq_false h
    have h'' : ¬ (0 : Int) < n := by omega
    rw [h', Bool.false_and]
    go_enter Tryz.func95, Tryz.ntmps95
    go_wp2
    go_ret
    exact ⟨rfl, rfl⟩
theorem impl_timeOk (n : Int) (w : World) : Calls Tryz.prog 25 #[.int .i64 n] w fun e w' => e = .returned (.bool (timB n)) ∧ w' = w := by
  have e2 : decide (n ≤ 1000000) = decide (n ≤ 1000000) := decide_eq_decide.2 (by omega)
  unfold timB inB
  by_cases h : 0 ≤ n
  · have h' : decide (0 ≤ n) = true := decide_eq_true h
    have h'' : (0 : Int) ≤ n := by omega
    rw [h', Bool.true_and]
    go_enter Tryz.func25, Tryz.ntmps25
    go_wp2
    go_ret
    first | exact ⟨rfl, rfl⟩ | exact ⟨by rw [← e2]; rfl, rfl⟩
  · have h' : decide (0 ≤ n) = false := decide_eq_false h
    have h'' : ¬ (0 : Int) ≤ n := by omega
    rw [h', Bool.false_and]
    go_enter Tryz.func25, Tryz.ntmps25
    go_wp2
    go_ret
    exact ⟨rfl, rfl⟩
abbrev stV (m o a : Int) : Value := .iface 140 (.agg #[.int .i64 m, .int .i64 o, .int .i64 a])
abbrev rdV (m o n a : Int) : Value := .iface 142 (.agg #[.int .i64 m, .int .i64 o, .int .i64 n, .int .i64 a])
abbrev mvV (m o n a : Int) : Value := .iface 143 (.agg #[.int .i64 m, .int .i64 o, .int .i64 n, .int .i64 a])
def shV (p m o n a : Int) : Value := if rollOk p m o n a = false then .nilIface else if p = 1 then stV m o a else if p = 2 then rdV m o n a else mvV m o n a
set_option maxRecDepth 100000 in
set_option maxHeartbeats 8000000 in
theorem impl_shapeOf (p m o n a : Int) (w : World) : Calls Tryz.prog 83 #[rv p m o n a] w fun e w' => e = .returned (shV p m o n a) ∧ w' = w.alloc (rbox p m o n a 42) := by
  have S0 := hidIt (fun W => impl_secretOk m W)
  have S1 := hidIt (fun W => impl_secretOk o W)
  have S2 := hidIt (fun W => impl_secretOk n W)
  have T0 := hidIt (fun W => impl_timeOk a W)
  cases hm : secB m with
  | false =>
    rw [hm] at S0
    have e : shV p m o n a = .nilIface := by simp [shV, rollOk, rollB, hm]
    rw [e]
    clear e
    go_enter Tryz.func83, Tryz.ntmps83
    go_wp2_with (fail)
    refine (S0.out _).mono ?_
    rintro e w1 ⟨rfl, rfl⟩
    go_wp2_with (fail)
    go_ret
    exact ⟨rfl, rfl⟩
  | true =>
    rw [hm] at S0
    cases ho : secB o with
    | false =>
      rw [ho] at S1
      have e : shV p m o n a = .nilIface := by simp [shV, rollOk, rollB, hm, ho]
      rw [e]
      clear e
      go_enter Tryz.func83, Tryz.ntmps83
      go_wp2_with (fail)
      refine (S0.out _).mono ?_
      rintro e w1 ⟨rfl, rfl⟩
      go_wp2_with (fail)
      refine (S1.out _).mono ?_
      rintro e w1 ⟨rfl, rfl⟩
      go_wp2_with (fail)
      go_ret
      exact ⟨rfl, rfl⟩
    | true =>
      rw [ho] at S1
      cases ha : timB a with
      | false =>
        rw [ha] at T0
        have e : shV p m o n a = .nilIface := by simp [shV, rollOk, rollB, hm, ho, ha]
        rw [e]
        clear e
        go_enter Tryz.func83, Tryz.ntmps83
        go_wp2_with (fail)
        refine (S0.out _).mono ?_
        rintro e w1 ⟨rfl, rfl⟩
        go_wp2_with (fail)
        refine (S1.out _).mono ?_
        rintro e w1 ⟨rfl, rfl⟩
        go_wp2_with (fail)
        refine (T0.out _).mono ?_
        rintro e w1 ⟨rfl, rfl⟩
        go_wp2_with (fail)
        go_ret
        exact ⟨rfl, rfl⟩
      | true =>
        rw [ha] at T0
        by_cases h1 : p = 1
        · subst h1
          by_cases h0 : n = 0
          · subst h0
            have e : shV 1 m o 0 a = stV m o a := by simp [shV, rollOk, rollB, hm, ho, ha]
            rw [e]
            clear e
            go_enter Tryz.func83, Tryz.ntmps83
            go_wp2_with (fail)
            refine (S0.out _).mono ?_
            rintro e w1 ⟨rfl, rfl⟩
            go_wp2_with (fail)
            refine (S1.out _).mono ?_
            rintro e w1 ⟨rfl, rfl⟩
            go_wp2_with (fail)
            refine (T0.out _).mono ?_
            rintro e w1 ⟨rfl, rfl⟩
            go_wp2_with (fail)
            go_ret
            exact ⟨rfl, rfl⟩
          · have h0b : (n == 0) = false := by simpa using h0
            have e : shV 1 m o n a = .nilIface := by simp [shV, rollOk, rollB, hm, ho, ha, h0b]
            rw [e]
            clear e
            go_enter Tryz.func83, Tryz.ntmps83
            go_wp2_with (fail)
            refine (S0.out _).mono ?_
            rintro e w1 ⟨rfl, rfl⟩
            go_wp2_with (fail)
            refine (S1.out _).mono ?_
            rintro e w1 ⟨rfl, rfl⟩
            go_wp2_with (fail)
            refine (T0.out _).mono ?_
            rintro e w1 ⟨rfl, rfl⟩
            go_wp2_with (fail)
            go_ret
            exact ⟨rfl, rfl⟩
        · have h1b : (p == 1) = false := by simpa using h1
          by_cases h2 : p = 2
          · subst h2
            cases hn : secB n with
            | true =>
              rw [hn] at S2
              have e : shV 2 m o n a = rdV m o n a := by simp [shV, rollOk, rollB, hm, ho, ha, hn, inB]
              rw [e]
              clear e
              go_enter Tryz.func83, Tryz.ntmps83
              go_wp2_with (fail)
              refine (S0.out _).mono ?_
              rintro e w1 ⟨rfl, rfl⟩
              go_wp2_with (fail)
              refine (S1.out _).mono ?_
              rintro e w1 ⟨rfl, rfl⟩
              go_wp2_with (fail)
              refine (T0.out _).mono ?_
              rintro e w1 ⟨rfl, rfl⟩
              go_wp2_with (fail)
              refine (S2.out _).mono ?_
              rintro e w1 ⟨rfl, rfl⟩
              go_wp2_with (fail)
              go_ret
              exact ⟨rfl, rfl⟩
            | false =>
              rw [hn] at S2
              have e : shV 2 m o n a = .nilIface := by simp [shV, rollOk, rollB, hm, ho, ha, hn]
              rw [e]
              clear e
              go_enter Tryz.func83, Tryz.ntmps83
              go_wp2_with (fail)
              refine (S0.out _).mono ?_
              rintro e w1 ⟨rfl, rfl⟩
              go_wp2_with (fail)
              refine (S1.out _).mono ?_
              rintro e w1 ⟨rfl, rfl⟩
              go_wp2_with (fail)
              refine (T0.out _).mono ?_
              rintro e w1 ⟨rfl, rfl⟩
              go_wp2_with (fail)
              refine (S2.out _).mono ?_
              rintro e w1 ⟨rfl, rfl⟩
              go_wp2_with (fail)
              go_ret
              exact ⟨rfl, rfl⟩
          · have h2b : (p == 2) = false := by simpa using h2
            by_cases h3 : p = 3
            · subst h3
              cases hn : secB n with
              | true =>
                rw [hn] at S2
                have e : shV 3 m o n a = mvV m o n a := by simp [shV, rollOk, rollB, hm, ho, ha, hn, inB]
                rw [e]
                clear e
                go_enter Tryz.func83, Tryz.ntmps83
                go_wp2_with (fail)
                refine (S0.out _).mono ?_
                rintro e w1 ⟨rfl, rfl⟩
                go_wp2_with (fail)
                refine (S1.out _).mono ?_
                rintro e w1 ⟨rfl, rfl⟩
                go_wp2_with (fail)
                refine (T0.out _).mono ?_
                rintro e w1 ⟨rfl, rfl⟩
                go_wp2_with (fail)
                refine (S2.out _).mono ?_
                rintro e w1 ⟨rfl, rfl⟩
                go_wp2_with (fail)
                go_ret
                exact ⟨rfl, rfl⟩
              | false =>
                rw [hn] at S2
                have e : shV 3 m o n a = .nilIface := by simp [shV, rollOk, rollB, hm, ho, ha, hn]
                rw [e]
                clear e
                go_enter Tryz.func83, Tryz.ntmps83
                go_wp2_with (fail)
                refine (S0.out _).mono ?_
                rintro e w1 ⟨rfl, rfl⟩
                go_wp2_with (fail)
                refine (S1.out _).mono ?_
                rintro e w1 ⟨rfl, rfl⟩
                go_wp2_with (fail)
                refine (T0.out _).mono ?_
                rintro e w1 ⟨rfl, rfl⟩
                go_wp2_with (fail)
                refine (S2.out _).mono ?_
                rintro e w1 ⟨rfl, rfl⟩
                go_wp2_with (fail)
                go_ret
                exact ⟨rfl, rfl⟩
            · have h3b : (p == 3) = false := by simpa using h3
              have hph : inB p 2 3 = false := by
                unfold inB
                cases h : decide (2 ≤ p) <;> cases h' : decide (p ≤ 3) <;> simp_all <;> omega
              have e : shV p m o n a = .nilIface := by simp [shV, rollOk, rollB, hm, ho, ha, h1, hph]
              rw [e]
              clear e
              go_enter Tryz.func83, Tryz.ntmps83
              go_wp2_with (fail)
              refine (S0.out _).mono ?_
              rintro e w1 ⟨rfl, rfl⟩
              go_wp2_with (fail)
              refine (S1.out _).mono ?_
              rintro e w1 ⟨rfl, rfl⟩
              go_wp2_with (fail)
              refine (T0.out _).mono ?_
              rintro e w1 ⟨rfl, rfl⟩
              go_wp2_with (fail)
              go_ret
              exact ⟨rfl, rfl⟩
end Go.Proofs.YtceddedlfdgbhaaGreatDoor.Ro
namespace Go.Proofs.YtceddedlfdgbhaaGreatDoor.Ro
open Go.ChangeShapes Go.WideShapes Go.ChangeAt Go.RowKit
set_option linter.unusedVariables false
theorem as_st_nil (w : World) : (Instr.typeAssert .nilIface 129 140 true).run Tryz.prog w = .ok (.tuple #[.agg #[.int .i64 0, .int .i64 0, .int .i64 0], .bool false]) w := by kernel_rfl
theorem as_st_st (v : Value) (w : World) : (Instr.typeAssert (.iface 140 v) 129 140 true).run Tryz.prog w = .ok (.tuple #[v, .bool true]) w := by kernel_rfl
theorem as_st_rd (v : Value) (w : World) : (Instr.typeAssert (.iface 142 v) 129 140 true).run Tryz.prog w = .ok (.tuple #[.agg #[.int .i64 0, .int .i64 0, .int .i64 0], .bool false]) w := by kernel_rfl
theorem as_st_mv (v : Value) (w : World) : (Instr.typeAssert (.iface 143 v) 129 140 true).run Tryz.prog w = .ok (.tuple #[.agg #[.int .i64 0, .int .i64 0, .int .i64 0], .bool false]) w := by kernel_rfl
theorem as_rd_nil (w : World) : (Instr.typeAssert .nilIface 129 142 true).run Tryz.prog w = .ok (.tuple #[.agg #[.int .i64 0, .int .i64 0, .int .i64 0, .int .i64 0], .bool false]) w := by kernel_rfl
theorem as_rd_st (v : Value) (w : World) : (Instr.typeAssert (.iface 140 v) 129 142 true).run Tryz.prog w = .ok (.tuple #[.agg #[.int .i64 0, .int .i64 0, .int .i64 0, .int .i64 0], .bool false]) w := by kernel_rfl
theorem as_rd_rd (v : Value) (w : World) : (Instr.typeAssert (.iface 142 v) 129 142 true).run Tryz.prog w = .ok (.tuple #[v, .bool true]) w := by kernel_rfl
theorem as_rd_mv (v : Value) (w : World) : (Instr.typeAssert (.iface 143 v) 129 142 true).run Tryz.prog w = .ok (.tuple #[.agg #[.int .i64 0, .int .i64 0, .int .i64 0, .int .i64 0], .bool false]) w := by kernel_rfl
theorem as_mv_nil (w : World) : (Instr.typeAssert .nilIface 129 143 true).run Tryz.prog w = .ok (.tuple #[.agg #[.int .i64 0, .int .i64 0, .int .i64 0, .int .i64 0], .bool false]) w := by kernel_rfl
theorem as_mv_st (v : Value) (w : World) : (Instr.typeAssert (.iface 140 v) 129 143 true).run Tryz.prog w = .ok (.tuple #[.agg #[.int .i64 0, .int .i64 0, .int .i64 0, .int .i64 0], .bool false]) w := by kernel_rfl
theorem as_mv_rd (v : Value) (w : World) : (Instr.typeAssert (.iface 142 v) 129 143 true).run Tryz.prog w = .ok (.tuple #[.agg #[.int .i64 0, .int .i64 0, .int .i64 0, .int .i64 0], .bool false]) w := by kernel_rfl
theorem as_mv_mv (v : Value) (w : World) : (Instr.typeAssert (.iface 143 v) 129 143 true).run Tryz.prog w = .ok (.tuple #[v, .bool true]) w := by kernel_rfl
attribute [local go_sem] as_st_nil as_st_st as_st_rd as_st_mv as_rd_nil as_rd_st as_rd_rd as_rd_mv as_mv_nil as_mv_st as_mv_rd as_mv_mv
theorem shV_cases (p m o n a : Int) : (rollOk p m o n a = false ∧ shV p m o n a = .nilIface) ∨ (rollOk p m o n a = true ∧ ∃ u v, shV p m o n a = .iface u v) := by
  unfold shV
  cases hr : rollOk p m o n a with
  | false => exact .inl ⟨rfl, rfl⟩
  | true =>
    refine .inr ⟨rfl, ?_⟩
    rw [if_neg (show ¬ true = false by decide)]
    by_cases h1 : p = 1
    · exact ⟨_, _, if_pos h1⟩
    · rw [if_neg h1]
      by_cases h2 : p = 2
      · exact ⟨_, _, if_pos h2⟩
      · exact ⟨_, _, if_neg h2⟩
set_option maxRecDepth 100000 in
set_option maxHeartbeats 4000000 in
theorem impl_RollOk (p m o n a : Int) (w : World) : Calls Tryz.prog 65 #[rv p m o n a] w fun e w' => e = .returned (.bool (rollOk p m o n a)) ∧ w' = (w.alloc (rbox p m o n a 42)).alloc (rbox p m o n a 42) := by
  have C := hidIt (fun W => impl_shapeOf p m o n a W)
  rcases shV_cases p m o n a with ⟨e1, e2⟩ | ⟨e1, u, v, e2⟩
  · rw [e2] at C
    rw [e1]
    clear e1 e2
    go_enter Tryz.func65, Tryz.ntmps65
    go_wp2_with (fail)
    refine (C.out _).mono ?_
    rintro e w1 ⟨rfl, rfl⟩
    go_wp2_with (fail)
    go_ret
    exact ⟨rfl, rfl⟩
  · rw [e2] at C
    rw [e1]
    clear e1 e2
    go_enter Tryz.func65, Tryz.ntmps65
    go_wp2_with (fail)
    refine (C.out _).mono ?_
    rintro e w1 ⟨rfl, rfl⟩
    go_wp2_with (fail)
    go_ret
    exact ⟨rfl, rfl⟩
end Go.Proofs.YtceddedlfdgbhaaGreatDoor.Ro
