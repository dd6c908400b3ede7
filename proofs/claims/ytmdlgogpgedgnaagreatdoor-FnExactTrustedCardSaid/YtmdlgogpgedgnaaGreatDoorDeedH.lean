/-
  Holds of the specification.
-/
import Derived.Test.YtmdlgogpgedgnaaGreatDoorDeedS
namespace Go.Proofs.YtmdlgogpgedgnaaGreatDoor.Dd
open Go.ChangeShapes Go.WideShapes Go.ChangeAt Go.RowKit
open Cv Cu Sg
open Go.Proofs.YtmdlgogpgedgnaaGreatDoor.Bo (Box Box.new Box.newAt Box.kept Box.alloc Box.put Box.other Box.c Box.drew)
open Go.Proofs.YtmdlgogpgedgnaaGreatDoor.Ro (timB secB inB)
open Go.Proofs.YtmdlgogpgedgnaaGreatDoor.Ro (spec_l9Time)
open Go.Proofs.YtmdlgogpgedgnaaGreatDoor.Rc (BelowBy wp_region_below calls_below calls_same)
set_option linter.unusedVariables false
set_option maxRecDepth 100000 in
set_option maxHeartbeats 4000000 in
theorem spec_Holds (K1 K2 u R1 R2 T : Int) (s : ByteArray) (now : Int) (w : World) (hs : s.size ≤ 4611686018427370000) :
    Calls Tryz.prog 14 #[sv K1 K2 u R1 R2 T, .string s, .int .i64 now] w fun e w' => e = .returned (.bool (holdsB K1 K2 u R1 R2 T s now)) ∧ Below w.heap.size w w' := by
  have CU := hidIt (fun W => spec_l9Time u W)
  have CN := hidIt (fun W => spec_l9Time now W)
  have CI : Hid (timB u = true → ∀ W, Calls Tryz.prog 28 #[.int .i64 u] W fun e w' => e = .returned (.string (numS u.toNat)) ∧ Below W.heap.size W w') := hidIt (fun h W => by
    obtain ⟨m, rfl, hm⟩ := tim_nat h
    exact l1Int_any m W (by omega))
  have hx : timB u = true → (numS u.toNat).size ≤ 21 := fun h => by
    obtain ⟨m, rfl, hm⟩ := tim_nat h
    exact numS_size m (by omega)
  have CV : Hid (timB u = true → ∀ W, Calls Tryz.prog 27 #[.agg #[.int .i64 K1, .int .i64 K2], .string (numS u.toNat ++ ⟨#[32]⟩ ++ s), .agg #[.int .i64 R1, .int .i64 R2, .int .i64 T]] W fun e w' => e = .returned (.bool (validB K1 K2 (stx u.toNat s) R1 R2 T)) ∧ Below W.heap.size W w') := hidIt (fun h W => by
    obtain ⟨m, rfl, hm⟩ := tim_nat h
    exact spec_Valid_any K1 K2 (stx m s) R1 R2 T W (by have := stx_size (u := m) (s := s) (by omega); omega))
  unfold holdsB
  generalize validB K1 K2 (stx u.toNat s) R1 R2 T = va at CV ⊢
  generalize numS u.toNat = x at CI CV hx
  generalize timB now = tn at *
  cases htu : timB u with
  | false =>
    rw [htu] at CU
    clear hx CV CI htu
    have BA := Box.new w (sc K1 K2 u R1 R2 T) 38
    have HB : Hid (Below w.heap.size w (w.alloc (.cells (sc K1 K2 u R1 R2 T) 38))) := hidIt ((Below.refl w.heap.size w).alloc (Nat.le_refl _) _)
    go_enter Tryz.func14, Tryz.ntmps14
    go_upto_region 1 with fail
    generalize w.alloc (.cells (sc K1 K2 u R1 R2 T) 38) = wz at BA HB ⊢
    haveI := BelowBy.one wz
    have g0 := fun p : BelowBy wz => p.cell (BA.c 0 (v := .int .i64 K1) rfl)
    have g1 := fun p : BelowBy wz => p.cell (BA.c 1 (v := .int .i64 K2) rfl)
    have g2 := fun p : BelowBy wz => p.cell (BA.c 2 (v := .int .i64 u) rfl)
    have g3 := fun p : BelowBy wz => p.cell (BA.c 3 (v := .int .i64 R1) rfl)
    have g4 := fun p : BelowBy wz => p.cell (BA.c 4 (v := .int .i64 R2) rfl)
    have g5 := fun p : BelowBy wz => p.cell (BA.c 5 (v := .int .i64 T) rfl)
    clear BA
    refine wp_region_below (by kernel_rfl) (by kernel_rfl) ?_
    repeat (go_big_quiet_step (first | (go_at_call 26; first | (with_reducible exact calls_same (CU.out _)) | (with_reducible exact calls_same (CN.out _)))))
    refine wpQuiet_nil ?_
    intro _ hw'
    obtain ⟨pq, rfl⟩ := hw'
    have k2 := pq.h
    generalize pq.world = w2 at k2 ⊢
    replace HB := hidIt (HB.out.trans (k2.mono HB.out.size))
    clear k2 g0 g1 g2 g3 g4 g5
    go_wp2_with (fail)
    go_ret
    exact ⟨rfl, HB.out⟩
  | true =>
    replace CI := hidIt (CI.out htu)
    replace CV := hidIt (CV.out htu)
    replace hx := hx htu
    rw [htu] at CU
    clear htu
    have q0 : (⟨#[32]⟩ : ByteArray).size = 1 := rfl
    have q1 : ¬ 9223372036854775807 < x.size + 1 := by omega
    have q2 : ¬ 9223372036854775807 < x.size + 1 + s.size := by omega
    cases tn with
    | false =>
      have BA := Box.new w (sc K1 K2 u R1 R2 T) 38
      have HB : Hid (Below w.heap.size w (w.alloc (.cells (sc K1 K2 u R1 R2 T) 38))) := hidIt ((Below.refl w.heap.size w).alloc (Nat.le_refl _) _)
      go_enter Tryz.func14, Tryz.ntmps14
      go_upto_region 1 with fail
      generalize w.alloc (.cells (sc K1 K2 u R1 R2 T) 38) = wz at BA HB ⊢
      haveI := BelowBy.one wz
      have g0 := fun p : BelowBy wz => p.cell (BA.c 0 (v := .int .i64 K1) rfl)
      have g1 := fun p : BelowBy wz => p.cell (BA.c 1 (v := .int .i64 K2) rfl)
      have g2 := fun p : BelowBy wz => p.cell (BA.c 2 (v := .int .i64 u) rfl)
      have g3 := fun p : BelowBy wz => p.cell (BA.c 3 (v := .int .i64 R1) rfl)
      have g4 := fun p : BelowBy wz => p.cell (BA.c 4 (v := .int .i64 R2) rfl)
      have g5 := fun p : BelowBy wz => p.cell (BA.c 5 (v := .int .i64 T) rfl)
      clear BA
      refine wp_region_below (by kernel_rfl) (by kernel_rfl) ?_
      repeat (go_big_quiet_step (first | (go_at_call 26; first | (with_reducible exact calls_same (CU.out _)) | (with_reducible exact calls_same (CN.out _)))))
      refine wpQuiet_nil ?_
      intro _ hw'
      obtain ⟨pq, rfl⟩ := hw'
      have k2 := pq.h
      generalize pq.world = w2 at k2 ⊢
      replace HB := hidIt (HB.out.trans (k2.mono HB.out.size))
      clear k2 g0 g1 g2 g3 g4 g5
      go_wp2_with (fail)
      go_ret
      exact ⟨rfl, HB.out⟩
    | true =>
      by_cases hlt : now < u
      · have hd : decide (now < u) = true := decide_eq_true hlt
        rw [hd]
        have BA := Box.new w (sc K1 K2 u R1 R2 T) 38
        have HB : Hid (Below w.heap.size w (w.alloc (.cells (sc K1 K2 u R1 R2 T) 38))) := hidIt ((Below.refl w.heap.size w).alloc (Nat.le_refl _) _)
        go_enter Tryz.func14, Tryz.ntmps14
        go_upto_region 1 with fail
        generalize w.alloc (.cells (sc K1 K2 u R1 R2 T) 38) = wz at BA HB ⊢
        haveI := BelowBy.one wz
        have g0 := fun p : BelowBy wz => p.cell (BA.c 0 (v := .int .i64 K1) rfl)
        have g1 := fun p : BelowBy wz => p.cell (BA.c 1 (v := .int .i64 K2) rfl)
        have g2 := fun p : BelowBy wz => p.cell (BA.c 2 (v := .int .i64 u) rfl)
        have g3 := fun p : BelowBy wz => p.cell (BA.c 3 (v := .int .i64 R1) rfl)
        have g4 := fun p : BelowBy wz => p.cell (BA.c 4 (v := .int .i64 R2) rfl)
        have g5 := fun p : BelowBy wz => p.cell (BA.c 5 (v := .int .i64 T) rfl)
        clear BA
        refine wp_region_below (by kernel_rfl) (by kernel_rfl) ?_
        repeat (go_big_quiet_step (first | (go_at_call 26; first | (with_reducible exact calls_same (CU.out _)) | (with_reducible exact calls_same (CN.out _))) | (go_at_call 28; exact calls_below (CI.out _)) | (go_at_call 27; exact calls_below (CV.out _))))
        refine wpQuiet_nil ?_
        intro _ hw'
        obtain ⟨pq, rfl⟩ := hw'
        have k2 := pq.h
        generalize pq.world = w2 at k2 ⊢
        replace HB := hidIt (HB.out.trans (k2.mono HB.out.size))
        clear k2 g0 g1 g2 g3 g4 g5
        go_wp2_with (fail)
        go_ret
        exact ⟨by cases va <;> rfl, HB.out⟩
      · have hd : decide (now < u) = false := decide_eq_false hlt
        rw [hd]
        have BA := Box.new w (sc K1 K2 u R1 R2 T) 38
        have HB : Hid (Below w.heap.size w (w.alloc (.cells (sc K1 K2 u R1 R2 T) 38))) := hidIt ((Below.refl w.heap.size w).alloc (Nat.le_refl _) _)
        go_enter Tryz.func14, Tryz.ntmps14
        go_upto_region 1 with fail
        generalize w.alloc (.cells (sc K1 K2 u R1 R2 T) 38) = wz at BA HB ⊢
        haveI := BelowBy.one wz
        have g0 := fun p : BelowBy wz => p.cell (BA.c 0 (v := .int .i64 K1) rfl)
        have g1 := fun p : BelowBy wz => p.cell (BA.c 1 (v := .int .i64 K2) rfl)
        have g2 := fun p : BelowBy wz => p.cell (BA.c 2 (v := .int .i64 u) rfl)
        have g3 := fun p : BelowBy wz => p.cell (BA.c 3 (v := .int .i64 R1) rfl)
        have g4 := fun p : BelowBy wz => p.cell (BA.c 4 (v := .int .i64 R2) rfl)
        have g5 := fun p : BelowBy wz => p.cell (BA.c 5 (v := .int .i64 T) rfl)
        clear BA
        refine wp_region_below (by kernel_rfl) (by kernel_rfl) ?_
        repeat (go_big_quiet_step (first | (go_at_call 26; first | (with_reducible exact calls_same (CU.out _)) | (with_reducible exact calls_same (CN.out _)))))
        refine wpQuiet_nil ?_
        intro _ hw'
        obtain ⟨pq, rfl⟩ := hw'
        have k2 := pq.h
        generalize pq.world = w2 at k2 ⊢
        replace HB := hidIt (HB.out.trans (k2.mono HB.out.size))
        clear k2 g0 g1 g2 g3 g4 g5
        go_wp2_with (fail)
        go_ret
        exact ⟨rfl, HB.out⟩
end Go.Proofs.YtmdlgogpgedgnaaGreatDoor.Dd
