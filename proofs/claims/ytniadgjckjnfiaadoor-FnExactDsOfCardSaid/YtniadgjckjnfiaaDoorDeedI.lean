/-
  Times, numbers with a blank, what is sealed, and SealOf of the program.
-/
import Derived.Test.YtniadgjckjnfiaaDoorDeedD
import Derived.Test.YtniadgjckjnfiaaDoorNameL
import Derived.Test.YtniadgjckjnfiaaDoorQuiet
import Derived.Test.YtniadgjckjnfiaaDoorSignK
import Derived.Test.YtniadgjckjnfiaaDoorSignU
namespace Go.Proofs.YtniadgjckjnfiaaDoor.Dd
open Go.ChangeShapes Go.WideShapes Go.ChangeAt Go.RowKit
open Cv Cu Sg
open Go.Proofs.YtniadgjckjnfiaaDoor.Pt (Ln lat)
open Go.Proofs.YtniadgjckjnfiaaDoor.Bo (Box Box.new Box.newAt Box.kept Box.alloc Box.put Box.other Box.c Box.drew)
open Go.Proofs.YtniadgjckjnfiaaDoor.Nm (bs okB)
open Go.Proofs.YtniadgjckjnfiaaDoor.Ro (timB secB inB)
open Go.Proofs.YtniadgjckjnfiaaDoor.Rc (BelowBy wp_region_below calls_below calls_same)
set_option linter.unusedVariables false
theorem inB_of {n lo hi : Int} : inB n lo hi = (decide (lo ≤ n) && decide (n ≤ hi)) := rfl
set_option maxRecDepth 100000 in
theorem impl_timeOk (n : Int) (w : World) : Calls Tryd.prog 27 #[.int .i64 n] w fun e w' => e = .returned (.bool (timB n)) ∧ w' = w := by
  unfold timB inB
  by_cases h : 0 ≤ n
  · have h' : decide ((0 : Int) ≤ n) = true := decide_eq_true h
    rw [h', Bool.true_and]
    go_enter Tryd.func27, Tryd.ntmps27
    go_wp2
    go_ret
    exact ⟨rfl, rfl⟩
  · have h' : decide ((0 : Int) ≤ n) = false := decide_eq_false h
    rw [h', Bool.false_and]
    go_enter Tryd.func27, Tryd.ntmps27
    go_wp2
    go_ret
    exact ⟨rfl, rfl⟩
theorem formatInt_S (n : Nat) (w : World) (hn : n ≤ 1099511627776) (ht : Tab w) : Calls Tryd.prog 73 #[.int .i64 n, .int .i64 10] w fun e w' => e = .returned (.string (numS n)) ∧ Below w.heap.size w w' :=
  formatInt_any n (by omega) (by omega) w ht
set_option maxRecDepth 100000 in
set_option maxHeartbeats 2000000 in
theorem impl_withBlank (u : Nat) (w : World) (hu : u ≤ 1099511627776) (ht : Tab w) : Calls Tryd.prog 52 #[.int .i64 u] w fun e w' => e = .returned (.string (numS u ++ ⟨#[32]⟩)) ∧ Below w.heap.size w w' := by
  have CF := hidIt (fun W t => formatInt_S u W hu t)
  have hx := numS_size u hu
  generalize numS u = x at CF hx ⊢
  have q0 : (⟨#[32]⟩ : ByteArray).size = 1 := rfl
  have q1 : ¬ 9223372036854775807 < x.size + 1 := by omega
  go_enter Tryd.func52, Tryd.ntmps52
  go_wp2_with (fail)
  refine (CF.out _ ht).mono ?_
  rintro e w1 ⟨rfl, k⟩
  go_wp2_with (fail)
  go_ret
  exact ⟨rfl, k⟩
set_option maxRecDepth 100000 in
set_option maxHeartbeats 2000000 in
theorem impl_sealed (u : Nat) (s : ByteArray) (w : World) (hu : u ≤ 1000000) (hs : s.size ≤ 4611686018427370000) (ht : Tab w) : Calls Tryd.prog 29 #[.int .i64 u, .string s] w fun e w' => e = .returned (.string (stx u s)) ∧ Below w.heap.size w w' := by
  have CF := hidIt (fun W t => impl_withBlank u W (by omega) t)
  have hx := numS_size u (by omega)
  rw [stx_eq]
  have q0 : (⟨#[32]⟩ : ByteArray).size = 1 := rfl
  have hy : (numS u ++ ⟨#[32]⟩).size ≤ 22 := by rw [ByteArray.size_append]; omega
  generalize numS u ++ ⟨#[32]⟩ = x at CF hy ⊢
  have q2 : ¬ 9223372036854775807 < x.size + s.size := by omega
  clear hx q0
  go_enter Tryd.func29, Tryd.ntmps29
  go_wp2_with (fail)
  refine (CF.out _ ht).mono ?_
  rintro e w1 ⟨rfl, k⟩
  go_wp2_with (fail)
  go_ret
  exact ⟨rfl, k⟩
theorem sec_no {n : Int} (h : secB n = false) : ¬ 0 < n ∨ 0 < n ∧ ¬ n < 2549 := by
  unfold secB inB at h
  simp only [Bool.and_eq_false_iff, decide_eq_false_iff_not] at h
  omega
set_option maxRecDepth 100000 in
set_option maxHeartbeats 4000000 in
theorem impl_SealOf (n : Int) (s : ByteArray) (u : Int) (w : World) (ht : Tab w) (hs : s.size ≤ 4611686018427370000) :
    Calls Tryd.prog 8 #[.int .i64 n, .string s, .int .i64 u] w fun e w' => e = .returned (.tuple #[svt (sealR n s u).1, .bool (sealR n s u).2]) ∧ Below w.heap.size w w' := by
  have CT := hidIt (fun W => impl_timeOk u W)
  have BA := hidIt (Box.new w (sc 0 0 0 0 0 0) 27)
  have HB : Hid (Below w.heap.size w (w.alloc (.cells (sc 0 0 0 0 0 0) 27))) := hidIt ((Below.refl w.heap.size w).alloc (Nat.le_refl _) _)
  have HT := hidIt ht
  clear ht
  cases h1 : secB n with
  | false =>
    rw [sealR_no (.inl h1)]
    have CK := hidIt (fun W => impl_KeyOf_no n W (sec_no h1))
    clear h1
    go_enter Tryd.func8, Tryd.ntmps8
    go_wp2_with (fail)
    refine (CK.out _).mono ?_
    rintro e w1 ⟨rfl, k⟩
    replace HB := hidIt (HB.out.trans (k.mono HB.out.size))
    replace BA := hidIt (BA.out.kept k)
    clear k
    have k := (Below.refl w1.heap.size w1).alloc (Nat.le_refl _) (.cells #[.int .i64 0, .int .i64 0] 23)
    replace HB := hidIt (HB.out.trans (k.mono HB.out.size))
    replace BA := hidIt (BA.out.kept k)
    clear k
    have c0 := BA.out.c 0 (v := .int .i64 0) rfl
    have f0 := BA.out.fr 0
    have c1 := BA.out.c 1 (v := .int .i64 0) rfl
    have f1 := BA.out.fr 1
    have c2 := BA.out.c 2 (v := .int .i64 0) rfl
    have f2 := BA.out.fr 2
    have c3 := BA.out.c 3 (v := .int .i64 0) rfl
    have f3 := BA.out.fr 3
    have c4 := BA.out.c 4 (v := .int .i64 0) rfl
    have f4 := BA.out.fr 4
    have c5 := BA.out.c 5 (v := .int .i64 0) rfl
    have f5 := BA.out.fr 5
    go_wp2_with (fail)
    have BZ := (((((BA.out.put (c' := sc 0 0 0 0 0 0) 0 (.int .i64 0) (by simp) rfl).put (c' := sc 0 0 0 0 0 0) 1 (.int .i64 0) (by simp) rfl).put (c' := sc 0 0 0 0 0 0) 2 (.int .i64 0) (by simp) rfl).put (c' := sc 0 0 0 0 0 0) 3 (.int .i64 0) (by simp) rfl).put (c' := sc 0 0 0 0 0 0) 4 (.int .i64 0) (by simp) rfl).put (c' := sc 0 0 0 0 0 0) 5 (.int .i64 0) (by simp) rfl
    refine bodyPost_ret (v := .tuple #[sv 0 0 0 0 0 0, .bool false]) ?_ rfl ⟨rfl, ?_⟩
    · refine ret_box BZ (fun w9 j => ?_)
      have j0 := j.c 0 (v := .int .i64 0) rfl
      have j1 := j.c 1 (v := .int .i64 0) rfl
      have j2 := j.c 2 (v := .int .i64 0) rfl
      have j3 := j.c 3 (v := .int .i64 0) rfl
      have j4 := j.c 4 (v := .int .i64 0) rfl
      have j5 := j.c 5 (v := .int .i64 0) rfl
      clear BZ c0 c1 c2 c3 c4 c5 f0 f1 f2 f3 f4 f5
      simp [results, Tryd.results8, go_sem, j0, j1, j2, j3, j4, j5]
    · exact ((((((HB.out.setCell (p := ⟨w.heap.size, 0, none⟩) (Nat.le_refl _) _).setCell (p := ⟨w.heap.size, 1, none⟩) (Nat.le_refl _) _).setCell (p := ⟨w.heap.size, 2, none⟩) (Nat.le_refl _) _).setCell (p := ⟨w.heap.size, 3, none⟩) (Nat.le_refl _) _).setCell (p := ⟨w.heap.size, 4, none⟩) (Nat.le_refl _) _).setCell (p := ⟨w.heap.size, 5, none⟩) (Nat.le_refl _) _)
  | true =>
    obtain ⟨m, rfl, m1, m2⟩ := sec_nat h1
    have CK := hidIt (fun W => impl_KeyOf_yes m W m1 m2)
    cases h2 : timB u with
    | false =>
      rw [sealR_no (.inr h2)]
      rw [h2] at CT
      clear h1 h2
      generalize ns (2791, 6375) m = K at CK
      obtain ⟨K1, K2⟩ := K
      simp only at CK
      go_enter Tryd.func8, Tryd.ntmps8
      go_wp2_with (fail)
      refine (CK.out _).mono ?_
      rintro e w1 ⟨rfl, k⟩
      replace HB := hidIt (HB.out.trans (k.mono HB.out.size))
      replace BA := hidIt (BA.out.kept k)
      clear k
      have k := (Below.refl w1.heap.size w1).alloc (Nat.le_refl _) (.cells #[.int .i64 K1, .int .i64 K2] 23)
      replace HB := hidIt (HB.out.trans (k.mono HB.out.size))
      replace BA := hidIt (BA.out.kept k)
      clear k
      go_wp2_with (fail)
      refine (CT.out _).mono ?_
      rintro e w2 ⟨rfl, rfl⟩
      have c0 := BA.out.c 0 (v := .int .i64 0) rfl
      have f0 := BA.out.fr 0
      have c1 := BA.out.c 1 (v := .int .i64 0) rfl
      have f1 := BA.out.fr 1
      have c2 := BA.out.c 2 (v := .int .i64 0) rfl
      have f2 := BA.out.fr 2
      have c3 := BA.out.c 3 (v := .int .i64 0) rfl
      have f3 := BA.out.fr 3
      have c4 := BA.out.c 4 (v := .int .i64 0) rfl
      have f4 := BA.out.fr 4
      have c5 := BA.out.c 5 (v := .int .i64 0) rfl
      have f5 := BA.out.fr 5
      go_wp2_with (fail)
      have BZ := (((((BA.out.put (c' := sc 0 0 0 0 0 0) 0 (.int .i64 0) (by simp) rfl).put (c' := sc 0 0 0 0 0 0) 1 (.int .i64 0) (by simp) rfl).put (c' := sc 0 0 0 0 0 0) 2 (.int .i64 0) (by simp) rfl).put (c' := sc 0 0 0 0 0 0) 3 (.int .i64 0) (by simp) rfl).put (c' := sc 0 0 0 0 0 0) 4 (.int .i64 0) (by simp) rfl).put (c' := sc 0 0 0 0 0 0) 5 (.int .i64 0) (by simp) rfl
      refine bodyPost_ret (v := .tuple #[sv 0 0 0 0 0 0, .bool false]) ?_ rfl ⟨rfl, ?_⟩
      · refine ret_box BZ (fun w9 j => ?_)
        have j0 := j.c 0 (v := .int .i64 0) rfl
        have j1 := j.c 1 (v := .int .i64 0) rfl
        have j2 := j.c 2 (v := .int .i64 0) rfl
        have j3 := j.c 3 (v := .int .i64 0) rfl
        have j4 := j.c 4 (v := .int .i64 0) rfl
        have j5 := j.c 5 (v := .int .i64 0) rfl
        clear BZ c0 c1 c2 c3 c4 c5 f0 f1 f2 f3 f4 f5
        simp [results, Tryd.results8, go_sem, j0, j1, j2, j3, j4, j5]
      · exact ((((((HB.out.setCell (p := ⟨w.heap.size, 0, none⟩) (Nat.le_refl _) _).setCell (p := ⟨w.heap.size, 1, none⟩) (Nat.le_refl _) _).setCell (p := ⟨w.heap.size, 2, none⟩) (Nat.le_refl _) _).setCell (p := ⟨w.heap.size, 3, none⟩) (Nat.le_refl _) _).setCell (p := ⟨w.heap.size, 4, none⟩) (Nat.le_refl _) _).setCell (p := ⟨w.heap.size, 5, none⟩) (Nat.le_refl _) _)
    | true =>
      obtain ⟨v, rfl, hv⟩ := tim_nat h2
      rw [sealR_yes h1 h2, sealN_eq]
      rw [h2] at CT
      have CX := hidIt (fun W t => impl_sealed v s W hv hs t)
      have CG := hidIt (fun W t => impl_Signed_yes m (stx v s) W m1 m2 (by have := stx_size (u := v) (s := s) (by omega); omega) t)
      clear h1 h2
      generalize ((ns (2791, 6375) m).1 : Int) = K1 at CK ⊢
      generalize ((ns (2791, 6375) m).2 : Int) = K2 at CK ⊢
      generalize ((sgR m (stx v s)).1 : Int) = R1 at CG ⊢
      generalize ((sgR m (stx v s)).2 : Int) = R2 at CG ⊢
      generalize (sgT m (stx v s) : Int) = T at CG ⊢
      generalize stx v s = tx at CX CG
      go_enter Tryd.func8, Tryd.ntmps8
      go_wp2_with (fail)
      refine (CK.out _).mono ?_
      rintro e w1 ⟨rfl, k⟩
      replace HB := hidIt (HB.out.trans (k.mono HB.out.size))
      replace BA := hidIt (BA.out.kept k)
      clear k
      have BK := hidIt (Box.new w1 #[.int .i64 K1, .int .i64 K2] 23)
      have k := (Below.refl w1.heap.size w1).alloc (Nat.le_refl _) (.cells #[.int .i64 K1, .int .i64 K2] 23)
      replace HB := hidIt (HB.out.trans (k.mono HB.out.size))
      replace BA := hidIt (BA.out.kept k)
      clear k
      go_wp2_with (fail)
      refine (CT.out _).mono ?_
      rintro e w2 ⟨rfl, rfl⟩
      go_wp2_with (fail)
      refine (CX.out _ (HT.out.kept HB.out)).mono ?_
      rintro e w3 ⟨rfl, k⟩
      replace HB := hidIt (HB.out.trans (k.mono HB.out.size))
      replace BA := hidIt (BA.out.kept k)
      replace BK := hidIt (BK.out.kept k)
      clear k
      go_wp2_with (fail)
      refine (CG.out _ (HT.out.kept HB.out)).mono ?_
      rintro e w4 ⟨rfl, k⟩
      replace HB := hidIt (HB.out.trans (k.mono HB.out.size))
      replace BA := hidIt (BA.out.kept k)
      replace BK := hidIt (BK.out.kept k)
      clear k
      have k := (Below.refl w4.heap.size w4).alloc (Nat.le_refl _) (.cells #[.int .i64 R1, .int .i64 R2, .int .i64 T] 25)
      replace HB := hidIt (HB.out.trans (k.mono HB.out.size))
      replace BA := hidIt (BA.out.kept k)
      replace BK := hidIt (BK.out.kept k)
      clear k
      generalize w1.heap.size = b1 at BK ⊢
      have d0 := BK.out.c 0 (v := .int .i64 K1) rfl
      have d1 := BK.out.c 1 (v := .int .i64 K2) rfl
      have c0 := BA.out.c 0 (v := .int .i64 0) rfl
      have f0 := BA.out.fr 0
      have c1 := BA.out.c 1 (v := .int .i64 0) rfl
      have f1 := BA.out.fr 1
      have c2 := BA.out.c 2 (v := .int .i64 0) rfl
      have f2 := BA.out.fr 2
      have c3 := BA.out.c 3 (v := .int .i64 0) rfl
      have f3 := BA.out.fr 3
      have c4 := BA.out.c 4 (v := .int .i64 0) rfl
      have f4 := BA.out.fr 4
      have c5 := BA.out.c 5 (v := .int .i64 0) rfl
      have f5 := BA.out.fr 5
      go_wp2_with (fail)
      have BZ := (((((BA.out.put (c' := sc K1 0 0 0 0 0) 0 (.int .i64 K1) (by simp) rfl).put (c' := sc K1 K2 0 0 0 0) 1 (.int .i64 K2) (by simp) rfl).put (c' := sc K1 K2 v 0 0 0) 2 (.int .i64 v) (by simp) rfl).put (c' := sc K1 K2 v R1 0 0) 3 (.int .i64 R1) (by simp) rfl).put (c' := sc K1 K2 v R1 R2 0) 4 (.int .i64 R2) (by simp) rfl).put (c' := sc K1 K2 v R1 R2 T) 5 (.int .i64 T) (by simp) rfl
      refine bodyPost_ret (v := .tuple #[sv K1 K2 v R1 R2 T, .bool true]) ?_ rfl ⟨rfl, ?_⟩
      · refine ret_box BZ (fun w9 j => ?_)
        have j0 := j.c 0 (v := .int .i64 K1) rfl
        have j1 := j.c 1 (v := .int .i64 K2) rfl
        have j2 := j.c 2 (v := .int .i64 v) rfl
        have j3 := j.c 3 (v := .int .i64 R1) rfl
        have j4 := j.c 4 (v := .int .i64 R2) rfl
        have j5 := j.c 5 (v := .int .i64 T) rfl
        clear BZ c0 c1 c2 c3 c4 c5 f0 f1 f2 f3 f4 f5 d0 d1
        simp [results, Tryd.results8, go_sem, j0, j1, j2, j3, j4, j5]
      · exact ((((((HB.out.setCell (p := ⟨w.heap.size, 0, none⟩) (Nat.le_refl _) _).setCell (p := ⟨w.heap.size, 1, none⟩) (Nat.le_refl _) _).setCell (p := ⟨w.heap.size, 2, none⟩) (Nat.le_refl _) _).setCell (p := ⟨w.heap.size, 3, none⟩) (Nat.le_refl _) _).setCell (p := ⟨w.heap.size, 4, none⟩) (Nat.le_refl _) _).setCell (p := ⟨w.heap.size, 5, none⟩) (Nat.le_refl _) _)
end Go.Proofs.YtniadgjckjnfiaaDoor.Dd
