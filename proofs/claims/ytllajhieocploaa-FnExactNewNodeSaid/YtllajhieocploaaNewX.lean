/-
  NewNode of the program. (Written by wip/mkNew.py.)
-/
import Derived.Test.YtllajhieocploaaNewM
import Derived.Test.YtllajhieocploaaApxX
import Derived.Test.YtllajhieocploaaRollK
namespace Go.Proofs.Ytllajhieocploaa.Nn
open Go.ChangeShapes Go.WideShapes Go.ChangeAt Go.RowKit
set_option linter.unusedVariables false
set_option maxRecDepth 100000 in
set_option maxHeartbeats 8000000 in
theorem impl_NewNode (s : ByteArray) (m o : Int) (w : World) : Calls Try.prog 16 #[.string s, .int .i64 m, .int .i64 o] w fun en w' => NewP (newN s m o) w en w' := by
  have C1 := hidIt (fun W => Ro.impl_NewRoll m o 0 W)
  have C2 := hidIt (fun W => Nd.impl_hasLabels s W)
  have N1 : Hid (((Ro.newR m o 0).2 && Nd.apexB s) = false → newN s m o = (((0, 0, 0, 0, 0), ⟨#[]⟩), false)) := hidIt (fun h => by unfold newN; rw [h]; rfl)
  have N2 : Hid (((Ro.newR m o 0).2 && Nd.apexB s) = true → newN s m o = (((Ro.newR m o 0).1, s), true)) := hidIt (fun h => by unfold newN; rw [h]; rfl)
  generalize newN s m o = r at N1 N2 ⊢
  generalize (Ro.newR m o 0).1 = ro at C1 N2
  generalize (Ro.newR m o 0).2 = k1 at C1 N1 N2
  generalize Nd.apexB s = k2 at C2 N1 N2
  obtain ⟨q0, q1, q2, q3, q4⟩ := ro
  simp only [Ro.rvt, Ro.rv] at C1
  have BR := hidIt (Bo.Box.new w #[.slice none 0 0, .slice none 0 0, .int .i64 0, .int .i64 0, .int .i64 0, .int .i64 0, .int .i64 0, .slice none 0 0, .slice none 0 0, .string ⟨#[]⟩] 42)
  have HB := hidIt ((Below.refl w.heap.size w).alloc (Nat.le_refl _) (.cells #[.slice none 0 0, .slice none 0 0, .int .i64 0, .int .i64 0, .int .i64 0, .int .i64 0, .int .i64 0, .slice none 0 0, .slice none 0 0, .string ⟨#[]⟩] 42))
  go_enter Try.func16, Try.ntmps16
  go_wp2_with (fail)
  generalize w.alloc (.cells #[.slice none 0 0, .slice none 0 0, .int .i64 0, .int .i64 0, .int .i64 0, .int .i64 0, .int .i64 0, .slice none 0 0, .slice none 0 0, .string ⟨#[]⟩] 42) = W0 at BR HB ⊢
  refine (C1.out _).mono ?_
  rintro en w1 ⟨rfl, k⟩
  replace BR := hidIt (BR.out.kept k)
  replace HB := hidIt (on HB.out k)
  clear k
  have BO := hidIt (Bo.Box.new w1 #[.int .i64 q0, .int .i64 q1, .int .i64 q2, .int .i64 q3, .int .i64 q4] 38)
  have kA := (Below.refl w1.heap.size w1).alloc (Nat.le_refl _) (.cells #[.int .i64 q0, .int .i64 q1, .int .i64 q2, .int .i64 q3, .int .i64 q4] 38)
  replace BR := hidIt (BR.out.kept kA)
  replace HB := hidIt (on HB.out kA)
  clear kA
  cases k1 with
  | false =>
    have er := N1.out rfl
    subst er
    clear N1 N2
    have c0 := BR.out.c 0 (v := .slice none 0 0) rfl
    have c1 := BR.out.c 1 (v := .slice none 0 0) rfl
    have c2 := BR.out.c 2 (v := .int .i64 0) rfl
    have c3 := BR.out.c 3 (v := .int .i64 0) rfl
    have c4 := BR.out.c 4 (v := .int .i64 0) rfl
    have c5 := BR.out.c 5 (v := .int .i64 0) rfl
    have c6 := BR.out.c 6 (v := .int .i64 0) rfl
    have c7 := BR.out.c 7 (v := .slice none 0 0) rfl
    have c8 := BR.out.c 8 (v := .slice none 0 0) rfl
    have c9 := BR.out.c 9 (v := .string ⟨#[]⟩) rfl
    have z0 := BR.out.fr 0
    have z1 := BR.out.fr 1
    have z2 := BR.out.fr 2
    have z3 := BR.out.fr 3
    have z4 := BR.out.fr 4
    have z5 := BR.out.fr 5
    have z6 := BR.out.fr 6
    have z7 := BR.out.fr 7
    have z8 := BR.out.fr 8
    have z9 := BR.out.fr 9
    have RZ := hidIt (((((((((((BR.out).put (c' := #[.slice none 0 0, .slice none 0 0, .int .i64 0, .int .i64 0, .int .i64 0, .int .i64 0, .int .i64 0, .slice none 0 0, .slice none 0 0, .string ⟨#[]⟩]) 0 (.slice none 0 0) (by simp) rfl).put (c' := #[.slice none 0 0, .slice none 0 0, .int .i64 0, .int .i64 0, .int .i64 0, .int .i64 0, .int .i64 0, .slice none 0 0, .slice none 0 0, .string ⟨#[]⟩]) 1 (.slice none 0 0) (by simp) rfl).put (c' := #[.slice none 0 0, .slice none 0 0, .int .i64 0, .int .i64 0, .int .i64 0, .int .i64 0, .int .i64 0, .slice none 0 0, .slice none 0 0, .string ⟨#[]⟩]) 2 (.int .i64 0) (by simp) rfl).put (c' := #[.slice none 0 0, .slice none 0 0, .int .i64 0, .int .i64 0, .int .i64 0, .int .i64 0, .int .i64 0, .slice none 0 0, .slice none 0 0, .string ⟨#[]⟩]) 3 (.int .i64 0) (by simp) rfl).put (c' := #[.slice none 0 0, .slice none 0 0, .int .i64 0, .int .i64 0, .int .i64 0, .int .i64 0, .int .i64 0, .slice none 0 0, .slice none 0 0, .string ⟨#[]⟩]) 4 (.int .i64 0) (by simp) rfl).put (c' := #[.slice none 0 0, .slice none 0 0, .int .i64 0, .int .i64 0, .int .i64 0, .int .i64 0, .int .i64 0, .slice none 0 0, .slice none 0 0, .string ⟨#[]⟩]) 5 (.int .i64 0) (by simp) rfl).put (c' := #[.slice none 0 0, .slice none 0 0, .int .i64 0, .int .i64 0, .int .i64 0, .int .i64 0, .int .i64 0, .slice none 0 0, .slice none 0 0, .string ⟨#[]⟩]) 6 (.int .i64 0) (by simp) rfl).put (c' := #[.slice none 0 0, .slice none 0 0, .int .i64 0, .int .i64 0, .int .i64 0, .int .i64 0, .int .i64 0, .slice none 0 0, .slice none 0 0, .string ⟨#[]⟩]) 7 (.slice none 0 0) (by simp) rfl).put (c' := #[.slice none 0 0, .slice none 0 0, .int .i64 0, .int .i64 0, .int .i64 0, .int .i64 0, .int .i64 0, .slice none 0 0, .slice none 0 0, .string ⟨#[]⟩]) 8 (.slice none 0 0) (by simp) rfl).put (c' := #[.slice none 0 0, .slice none 0 0, .int .i64 0, .int .i64 0, .int .i64 0, .int .i64 0, .int .i64 0, .slice none 0 0, .slice none 0 0, .string ⟨#[]⟩]) 9 (.string ⟨#[]⟩) (by simp) rfl)
    have HZ := hidIt (((((((((((HB.out).setCell (p := ⟨w.heap.size, 0, none⟩) (Nat.le_refl _) (.slice none 0 0)).setCell (p := ⟨w.heap.size, 1, none⟩) (Nat.le_refl _) (.slice none 0 0)).setCell (p := ⟨w.heap.size, 2, none⟩) (Nat.le_refl _) (.int .i64 0)).setCell (p := ⟨w.heap.size, 3, none⟩) (Nat.le_refl _) (.int .i64 0)).setCell (p := ⟨w.heap.size, 4, none⟩) (Nat.le_refl _) (.int .i64 0)).setCell (p := ⟨w.heap.size, 5, none⟩) (Nat.le_refl _) (.int .i64 0)).setCell (p := ⟨w.heap.size, 6, none⟩) (Nat.le_refl _) (.int .i64 0)).setCell (p := ⟨w.heap.size, 7, none⟩) (Nat.le_refl _) (.slice none 0 0)).setCell (p := ⟨w.heap.size, 8, none⟩) (Nat.le_refl _) (.slice none 0 0)).setCell (p := ⟨w.heap.size, 9, none⟩) (Nat.le_refl _) (.string ⟨#[]⟩))
    clear BR HB
    go_wp2_with (fail)
    generalize ((((((((((w1.alloc (.cells #[.int .i64 q0, .int .i64 q1, .int .i64 q2, .int .i64 q3, .int .i64 q4] 38)).setCell ⟨w.heap.size, 0, none⟩ (.slice none 0 0)).setCell ⟨w.heap.size, 1, none⟩ (.slice none 0 0)).setCell ⟨w.heap.size, 2, none⟩ (.int .i64 0)).setCell ⟨w.heap.size, 3, none⟩ (.int .i64 0)).setCell ⟨w.heap.size, 4, none⟩ (.int .i64 0)).setCell ⟨w.heap.size, 5, none⟩ (.int .i64 0)).setCell ⟨w.heap.size, 6, none⟩ (.int .i64 0)).setCell ⟨w.heap.size, 7, none⟩ (.slice none 0 0)).setCell ⟨w.heap.size, 8, none⟩ (.slice none 0 0)).setCell ⟨w.heap.size, 9, none⟩ (.string ⟨#[]⟩) = wz at RZ HZ ⊢
    clear c0 z0 c1 z1 c2 z2 c3 z3 c4 z4 c5 z5 c6 z6 c7 z7 c8 z8 c9 z9
    have q0c := RZ.out.c 0 (v := .slice none 0 0) rfl
    have q1c := RZ.out.c 1 (v := .slice none 0 0) rfl
    have q2c := RZ.out.c 2 (v := .int .i64 0) rfl
    have q3c := RZ.out.c 3 (v := .int .i64 0) rfl
    have q4c := RZ.out.c 4 (v := .int .i64 0) rfl
    have q5c := RZ.out.c 5 (v := .int .i64 0) rfl
    have q6c := RZ.out.c 6 (v := .int .i64 0) rfl
    have q7c := RZ.out.c 7 (v := .slice none 0 0) rfl
    have q8c := RZ.out.c 8 (v := .slice none 0 0) rfl
    have q9c := RZ.out.c 9 (v := .string ⟨#[]⟩) rfl
    refine bodyPost_ret (v := .tuple #[.agg #[.slice none 0 0, .slice none 0 0, .int .i64 0, .int .i64 0, .int .i64 0, .int .i64 0, .int .i64 0, .slice none 0 0, .slice none 0 0, .string ⟨#[]⟩], .bool false]) (by simp [results, Try.results16, go_sem, q0c, q1c, q2c, q3c, q4c, q5c, q6c, q7c, q8c, q9c]) rfl ?_
    exact NewP.of rfl HZ.out
  | true =>
    go_wp2_with (fail)
    generalize w1.alloc (.cells #[.int .i64 q0, .int .i64 q1, .int .i64 q2, .int .i64 q3, .int .i64 q4] 38) = w3 at BR HB BO ⊢
    refine (C2.out _).mono ?_
    rintro en w2 ⟨rfl, k⟩
    replace BR := hidIt (BR.out.kept k)
    replace BO := hidIt (BO.out.kept k)
    replace HB := hidIt (on HB.out k)
    clear k
    cases k2 with
    | false =>
      have er := N1.out rfl
      subst er
      clear N1 N2
      have c0 := BR.out.c 0 (v := .slice none 0 0) rfl
      have c1 := BR.out.c 1 (v := .slice none 0 0) rfl
      have c2 := BR.out.c 2 (v := .int .i64 0) rfl
      have c3 := BR.out.c 3 (v := .int .i64 0) rfl
      have c4 := BR.out.c 4 (v := .int .i64 0) rfl
      have c5 := BR.out.c 5 (v := .int .i64 0) rfl
      have c6 := BR.out.c 6 (v := .int .i64 0) rfl
      have c7 := BR.out.c 7 (v := .slice none 0 0) rfl
      have c8 := BR.out.c 8 (v := .slice none 0 0) rfl
      have c9 := BR.out.c 9 (v := .string ⟨#[]⟩) rfl
      have z0 := BR.out.fr 0
      have z1 := BR.out.fr 1
      have z2 := BR.out.fr 2
      have z3 := BR.out.fr 3
      have z4 := BR.out.fr 4
      have z5 := BR.out.fr 5
      have z6 := BR.out.fr 6
      have z7 := BR.out.fr 7
      have z8 := BR.out.fr 8
      have z9 := BR.out.fr 9
      have RZ := hidIt (((((((((((BR.out).put (c' := #[.slice none 0 0, .slice none 0 0, .int .i64 0, .int .i64 0, .int .i64 0, .int .i64 0, .int .i64 0, .slice none 0 0, .slice none 0 0, .string ⟨#[]⟩]) 0 (.slice none 0 0) (by simp) rfl).put (c' := #[.slice none 0 0, .slice none 0 0, .int .i64 0, .int .i64 0, .int .i64 0, .int .i64 0, .int .i64 0, .slice none 0 0, .slice none 0 0, .string ⟨#[]⟩]) 1 (.slice none 0 0) (by simp) rfl).put (c' := #[.slice none 0 0, .slice none 0 0, .int .i64 0, .int .i64 0, .int .i64 0, .int .i64 0, .int .i64 0, .slice none 0 0, .slice none 0 0, .string ⟨#[]⟩]) 2 (.int .i64 0) (by simp) rfl).put (c' := #[.slice none 0 0, .slice none 0 0, .int .i64 0, .int .i64 0, .int .i64 0, .int .i64 0, .int .i64 0, .slice none 0 0, .slice none 0 0, .string ⟨#[]⟩]) 3 (.int .i64 0) (by simp) rfl).put (c' := #[.slice none 0 0, .slice none 0 0, .int .i64 0, .int .i64 0, .int .i64 0, .int .i64 0, .int .i64 0, .slice none 0 0, .slice none 0 0, .string ⟨#[]⟩]) 4 (.int .i64 0) (by simp) rfl).put (c' := #[.slice none 0 0, .slice none 0 0, .int .i64 0, .int .i64 0, .int .i64 0, .int .i64 0, .int .i64 0, .slice none 0 0, .slice none 0 0, .string ⟨#[]⟩]) 5 (.int .i64 0) (by simp) rfl).put (c' := #[.slice none 0 0, .slice none 0 0, .int .i64 0, .int .i64 0, .int .i64 0, .int .i64 0, .int .i64 0, .slice none 0 0, .slice none 0 0, .string ⟨#[]⟩]) 6 (.int .i64 0) (by simp) rfl).put (c' := #[.slice none 0 0, .slice none 0 0, .int .i64 0, .int .i64 0, .int .i64 0, .int .i64 0, .int .i64 0, .slice none 0 0, .slice none 0 0, .string ⟨#[]⟩]) 7 (.slice none 0 0) (by simp) rfl).put (c' := #[.slice none 0 0, .slice none 0 0, .int .i64 0, .int .i64 0, .int .i64 0, .int .i64 0, .int .i64 0, .slice none 0 0, .slice none 0 0, .string ⟨#[]⟩]) 8 (.slice none 0 0) (by simp) rfl).put (c' := #[.slice none 0 0, .slice none 0 0, .int .i64 0, .int .i64 0, .int .i64 0, .int .i64 0, .int .i64 0, .slice none 0 0, .slice none 0 0, .string ⟨#[]⟩]) 9 (.string ⟨#[]⟩) (by simp) rfl)
      have HZ := hidIt (((((((((((HB.out).setCell (p := ⟨w.heap.size, 0, none⟩) (Nat.le_refl _) (.slice none 0 0)).setCell (p := ⟨w.heap.size, 1, none⟩) (Nat.le_refl _) (.slice none 0 0)).setCell (p := ⟨w.heap.size, 2, none⟩) (Nat.le_refl _) (.int .i64 0)).setCell (p := ⟨w.heap.size, 3, none⟩) (Nat.le_refl _) (.int .i64 0)).setCell (p := ⟨w.heap.size, 4, none⟩) (Nat.le_refl _) (.int .i64 0)).setCell (p := ⟨w.heap.size, 5, none⟩) (Nat.le_refl _) (.int .i64 0)).setCell (p := ⟨w.heap.size, 6, none⟩) (Nat.le_refl _) (.int .i64 0)).setCell (p := ⟨w.heap.size, 7, none⟩) (Nat.le_refl _) (.slice none 0 0)).setCell (p := ⟨w.heap.size, 8, none⟩) (Nat.le_refl _) (.slice none 0 0)).setCell (p := ⟨w.heap.size, 9, none⟩) (Nat.le_refl _) (.string ⟨#[]⟩))
      clear BR HB
      go_wp2_with (fail)
      generalize ((((((((((w2).setCell ⟨w.heap.size, 0, none⟩ (.slice none 0 0)).setCell ⟨w.heap.size, 1, none⟩ (.slice none 0 0)).setCell ⟨w.heap.size, 2, none⟩ (.int .i64 0)).setCell ⟨w.heap.size, 3, none⟩ (.int .i64 0)).setCell ⟨w.heap.size, 4, none⟩ (.int .i64 0)).setCell ⟨w.heap.size, 5, none⟩ (.int .i64 0)).setCell ⟨w.heap.size, 6, none⟩ (.int .i64 0)).setCell ⟨w.heap.size, 7, none⟩ (.slice none 0 0)).setCell ⟨w.heap.size, 8, none⟩ (.slice none 0 0)).setCell ⟨w.heap.size, 9, none⟩ (.string ⟨#[]⟩) = wz at RZ HZ ⊢
      clear c0 z0 c1 z1 c2 z2 c3 z3 c4 z4 c5 z5 c6 z6 c7 z7 c8 z8 c9 z9
      have q0c := RZ.out.c 0 (v := .slice none 0 0) rfl
      have q1c := RZ.out.c 1 (v := .slice none 0 0) rfl
      have q2c := RZ.out.c 2 (v := .int .i64 0) rfl
      have q3c := RZ.out.c 3 (v := .int .i64 0) rfl
      have q4c := RZ.out.c 4 (v := .int .i64 0) rfl
      have q5c := RZ.out.c 5 (v := .int .i64 0) rfl
      have q6c := RZ.out.c 6 (v := .int .i64 0) rfl
      have q7c := RZ.out.c 7 (v := .slice none 0 0) rfl
      have q8c := RZ.out.c 8 (v := .slice none 0 0) rfl
      have q9c := RZ.out.c 9 (v := .string ⟨#[]⟩) rfl
      refine bodyPost_ret (v := .tuple #[.agg #[.slice none 0 0, .slice none 0 0, .int .i64 0, .int .i64 0, .int .i64 0, .int .i64 0, .int .i64 0, .slice none 0 0, .slice none 0 0, .string ⟨#[]⟩], .bool false]) (by simp [results, Try.results16, go_sem, q0c, q1c, q2c, q3c, q4c, q5c, q6c, q7c, q8c, q9c]) rfl ?_
      exact NewP.of rfl HZ.out
    | true =>
      have er := N2.out rfl
      subst er
      clear N1 N2
      have c0 := BR.out.c 0 (v := .slice none 0 0) rfl
      have c1 := BR.out.c 1 (v := .slice none 0 0) rfl
      have c2 := BR.out.c 2 (v := .int .i64 0) rfl
      have c3 := BR.out.c 3 (v := .int .i64 0) rfl
      have c4 := BR.out.c 4 (v := .int .i64 0) rfl
      have c5 := BR.out.c 5 (v := .int .i64 0) rfl
      have c6 := BR.out.c 6 (v := .int .i64 0) rfl
      have c7 := BR.out.c 7 (v := .slice none 0 0) rfl
      have c8 := BR.out.c 8 (v := .slice none 0 0) rfl
      have c9 := BR.out.c 9 (v := .string ⟨#[]⟩) rfl
      have z0 := BR.out.fr 0
      have z1 := BR.out.fr 1
      have z2 := BR.out.fr 2
      have z3 := BR.out.fr 3
      have z4 := BR.out.fr 4
      have z5 := BR.out.fr 5
      have z6 := BR.out.fr 6
      have z7 := BR.out.fr 7
      have z8 := BR.out.fr 8
      have z9 := BR.out.fr 9
      have RZ := hidIt (((((((((((BR.out).put (c' := #[.slice none 0 0, .slice none 0 0, .int .i64 0, .int .i64 0, .int .i64 0, .int .i64 0, .int .i64 0, .slice none 0 0, .slice none 0 0, .string ⟨#[]⟩]) 0 (.slice none 0 0) (by simp) rfl).put (c' := #[.slice none 0 0, .slice none 0 0, .int .i64 0, .int .i64 0, .int .i64 0, .int .i64 0, .int .i64 0, .slice none 0 0, .slice none 0 0, .string ⟨#[]⟩]) 1 (.slice none 0 0) (by simp) rfl).put (c' := #[.slice none 0 0, .slice none 0 0, .int .i64 q0, .int .i64 0, .int .i64 0, .int .i64 0, .int .i64 0, .slice none 0 0, .slice none 0 0, .string ⟨#[]⟩]) 2 (.int .i64 q0) (by simp) rfl).put (c' := #[.slice none 0 0, .slice none 0 0, .int .i64 q0, .int .i64 q1, .int .i64 0, .int .i64 0, .int .i64 0, .slice none 0 0, .slice none 0 0, .string ⟨#[]⟩]) 3 (.int .i64 q1) (by simp) rfl).put (c' := #[.slice none 0 0, .slice none 0 0, .int .i64 q0, .int .i64 q1, .int .i64 q2, .int .i64 0, .int .i64 0, .slice none 0 0, .slice none 0 0, .string ⟨#[]⟩]) 4 (.int .i64 q2) (by simp) rfl).put (c' := #[.slice none 0 0, .slice none 0 0, .int .i64 q0, .int .i64 q1, .int .i64 q2, .int .i64 q3, .int .i64 0, .slice none 0 0, .slice none 0 0, .string ⟨#[]⟩]) 5 (.int .i64 q3) (by simp) rfl).put (c' := #[.slice none 0 0, .slice none 0 0, .int .i64 q0, .int .i64 q1, .int .i64 q2, .int .i64 q3, .int .i64 q4, .slice none 0 0, .slice none 0 0, .string ⟨#[]⟩]) 6 (.int .i64 q4) (by simp) rfl).put (c' := #[.slice none 0 0, .slice none 0 0, .int .i64 q0, .int .i64 q1, .int .i64 q2, .int .i64 q3, .int .i64 q4, .slice none 0 0, .slice none 0 0, .string ⟨#[]⟩]) 7 (.slice none 0 0) (by simp) rfl).put (c' := #[.slice none 0 0, .slice none 0 0, .int .i64 q0, .int .i64 q1, .int .i64 q2, .int .i64 q3, .int .i64 q4, .slice none 0 0, .slice none 0 0, .string ⟨#[]⟩]) 8 (.slice none 0 0) (by simp) rfl).put (c' := #[.slice none 0 0, .slice none 0 0, .int .i64 q0, .int .i64 q1, .int .i64 q2, .int .i64 q3, .int .i64 q4, .slice none 0 0, .slice none 0 0, .string s]) 9 (.string s) (by simp) rfl)
      have HZ := hidIt (((((((((((HB.out).setCell (p := ⟨w.heap.size, 0, none⟩) (Nat.le_refl _) (.slice none 0 0)).setCell (p := ⟨w.heap.size, 1, none⟩) (Nat.le_refl _) (.slice none 0 0)).setCell (p := ⟨w.heap.size, 2, none⟩) (Nat.le_refl _) (.int .i64 q0)).setCell (p := ⟨w.heap.size, 3, none⟩) (Nat.le_refl _) (.int .i64 q1)).setCell (p := ⟨w.heap.size, 4, none⟩) (Nat.le_refl _) (.int .i64 q2)).setCell (p := ⟨w.heap.size, 5, none⟩) (Nat.le_refl _) (.int .i64 q3)).setCell (p := ⟨w.heap.size, 6, none⟩) (Nat.le_refl _) (.int .i64 q4)).setCell (p := ⟨w.heap.size, 7, none⟩) (Nat.le_refl _) (.slice none 0 0)).setCell (p := ⟨w.heap.size, 8, none⟩) (Nat.le_refl _) (.slice none 0 0)).setCell (p := ⟨w.heap.size, 9, none⟩) (Nat.le_refl _) (.string s))
      have a0 := BO.out.c 0 (v := .int .i64 q0) rfl
      have a1 := BO.out.c 1 (v := .int .i64 q1) rfl
      have a2 := BO.out.c 2 (v := .int .i64 q2) rfl
      have a3 := BO.out.c 3 (v := .int .i64 q3) rfl
      have a4 := BO.out.c 4 (v := .int .i64 q4) rfl
      clear BR HB
      go_wp2_with (fail)
      generalize ((((((((((w2).setCell ⟨w.heap.size, 0, none⟩ (.slice none 0 0)).setCell ⟨w.heap.size, 1, none⟩ (.slice none 0 0)).setCell ⟨w.heap.size, 2, none⟩ (.int .i64 q0)).setCell ⟨w.heap.size, 3, none⟩ (.int .i64 q1)).setCell ⟨w.heap.size, 4, none⟩ (.int .i64 q2)).setCell ⟨w.heap.size, 5, none⟩ (.int .i64 q3)).setCell ⟨w.heap.size, 6, none⟩ (.int .i64 q4)).setCell ⟨w.heap.size, 7, none⟩ (.slice none 0 0)).setCell ⟨w.heap.size, 8, none⟩ (.slice none 0 0)).setCell ⟨w.heap.size, 9, none⟩ (.string s) = wz at RZ HZ ⊢
      clear c0 z0 c1 z1 c2 z2 c3 z3 c4 z4 c5 z5 c6 z6 c7 z7 c8 z8 c9 z9 a0 a1 a2 a3 a4
      have q0c := RZ.out.c 0 (v := .slice none 0 0) rfl
      have q1c := RZ.out.c 1 (v := .slice none 0 0) rfl
      have q2c := RZ.out.c 2 (v := .int .i64 q0) rfl
      have q3c := RZ.out.c 3 (v := .int .i64 q1) rfl
      have q4c := RZ.out.c 4 (v := .int .i64 q2) rfl
      have q5c := RZ.out.c 5 (v := .int .i64 q3) rfl
      have q6c := RZ.out.c 6 (v := .int .i64 q4) rfl
      have q7c := RZ.out.c 7 (v := .slice none 0 0) rfl
      have q8c := RZ.out.c 8 (v := .slice none 0 0) rfl
      have q9c := RZ.out.c 9 (v := .string s) rfl
      refine bodyPost_ret (v := .tuple #[.agg #[.slice none 0 0, .slice none 0 0, .int .i64 q0, .int .i64 q1, .int .i64 q2, .int .i64 q3, .int .i64 q4, .slice none 0 0, .slice none 0 0, .string s], .bool true]) (by simp [results, Try.results16, go_sem, q0c, q1c, q2c, q3c, q4c, q5c, q6c, q7c, q8c, q9c]) rfl ?_
      exact NewP.of rfl HZ.out
end Go.Proofs.Ytllajhieocploaa.Nn
