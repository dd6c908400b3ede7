/-
  What the laws do with one Act and with a list of them: the measure, the copy, whether two are alike. (Written by wip/mkrow.py.)
-/
import Derived.Test.YtbdibkcamomgpaaActM
import Derived.Test.YtbdibkcamomgpaaQuiet
import Derived.Handy
import Derived.Test.YtbdibkcamomgpaaBoxM
namespace Go.Proofs.Ytbdibkcamomgpaa.Ac
open Go.ChangeShapes Go.WideShapes Go.ChangeAt Go.RowKit
open Go.Proofs.Ytbdibkcamomgpaa.Rc (BelowBy BelowBy.one wp_region_below calls_below calls_same)
set_option linter.unusedVariables false
/-- What a measure leaves: no more than there was, and less by how many there are. -/
structure Le2 (r l : Int) (m : Nat) : Prop where
  le : r ≤ l
  sum : 0 ≤ r → r + (m : Int) ≤ l
set_option maxRecDepth 100000 in
set_option maxHeartbeats 8000000 in
theorem toQ_any (x7 : Int) (x8 x9 : ByteArray) (x10 x11 : Int) (w : World) : Calls Try.prog 32 #[.agg #[.int .i64 x7, .string x8, .string x9, .int .i64 x10, .int .i64 x11]] w fun e w' => e = .returned (.agg #[.int .i64 x7, .string x8, .string x9, .int .i64 x10, .int .i64 x11]) ∧ Below w.heap.size w w' := by
  go_enter Try.func32, Try.ntmps32
  go_wp2
  refine bodyPost_ret (v := .agg #[.int .i64 x7, .string x8, .string x9, .int .i64 x10, .int .i64 x11]) (by simp [results, Try.results32, go_sem]) rfl ⟨rfl, ?_⟩
  go_grown
set_option maxRecDepth 100000 in
set_option maxHeartbeats 8000000 in
theorem to_any (x : Rw) (w : World) : Calls Try.prog 22 #[rv x] w fun e w' => e = .returned (rv x) ∧ Below w.heap.size w w' := by
  obtain ⟨x0, x1, x2, x3, x4, x5, x6, x7, x8, x9, x10, x11⟩ := x
  have CQ := hidIt (fun W => toQ_any x7 x8 x9 x10 x11 W)
  have BO : Hid (Bo.Box (((w.alloc (.cells #[.int .i64 x0, .int .i64 x1, .int .i64 x2, .string x3, .string x4, .string x5, .bool x6, .int .i64 x7, .string x8, .string x9, .int .i64 x10, .int .i64 x11] 42)).alloc (.cells #[.int .i64 0, .int .i64 0, .int .i64 0, .string ⟨#[]⟩, .string ⟨#[]⟩, .string ⟨#[]⟩, .bool false, .int .i64 0, .string ⟨#[]⟩, .string ⟨#[]⟩, .int .i64 0, .int .i64 0] 49)).alloc (.cells #[.int .i64 x0, .int .i64 x1, .int .i64 x2, .string x3, .string x4, .string x5, .bool x6, .int .i64 0, .string ⟨#[]⟩, .string ⟨#[]⟩, .int .i64 0, .int .i64 0] 49)) (w.heap.size + 1 + 1) #[.int .i64 x0, .int .i64 x1, .int .i64 x2, .string x3, .string x4, .string x5, .bool x6, .int .i64 0, .string ⟨#[]⟩, .string ⟨#[]⟩, .int .i64 0, .int .i64 0]) := hidIt (Bo.Box.newAt (by simp))
  have BR : Hid (Bo.Box (((w.alloc (.cells #[.int .i64 x0, .int .i64 x1, .int .i64 x2, .string x3, .string x4, .string x5, .bool x6, .int .i64 x7, .string x8, .string x9, .int .i64 x10, .int .i64 x11] 42)).alloc (.cells #[.int .i64 0, .int .i64 0, .int .i64 0, .string ⟨#[]⟩, .string ⟨#[]⟩, .string ⟨#[]⟩, .bool false, .int .i64 0, .string ⟨#[]⟩, .string ⟨#[]⟩, .int .i64 0, .int .i64 0] 49)).alloc (.cells #[.int .i64 x0, .int .i64 x1, .int .i64 x2, .string x3, .string x4, .string x5, .bool x6, .int .i64 0, .string ⟨#[]⟩, .string ⟨#[]⟩, .int .i64 0, .int .i64 0] 49)) (w.heap.size + 1) #[.int .i64 0, .int .i64 0, .int .i64 0, .string ⟨#[]⟩, .string ⟨#[]⟩, .string ⟨#[]⟩, .bool false, .int .i64 0, .string ⟨#[]⟩, .string ⟨#[]⟩, .int .i64 0, .int .i64 0]) := hidIt ((Bo.Box.newAt (by simp)).alloc _)
  have HB : Hid (Below w.heap.size w (((w.alloc (.cells #[.int .i64 x0, .int .i64 x1, .int .i64 x2, .string x3, .string x4, .string x5, .bool x6, .int .i64 x7, .string x8, .string x9, .int .i64 x10, .int .i64 x11] 42)).alloc (.cells #[.int .i64 0, .int .i64 0, .int .i64 0, .string ⟨#[]⟩, .string ⟨#[]⟩, .string ⟨#[]⟩, .bool false, .int .i64 0, .string ⟨#[]⟩, .string ⟨#[]⟩, .int .i64 0, .int .i64 0] 49)).alloc (.cells #[.int .i64 x0, .int .i64 x1, .int .i64 x2, .string x3, .string x4, .string x5, .bool x6, .int .i64 0, .string ⟨#[]⟩, .string ⟨#[]⟩, .int .i64 0, .int .i64 0] 49))) := hidIt ((((Below.refl w.heap.size w).alloc (Nat.le_refl _) _).alloc (by simp) _).alloc (by simp; omega) _)
  have ne21 : w.heap.size + 1 + 1 ≠ w.heap.size + 1 := by omega
  have hle : w.heap.size ≤ w.heap.size + 1 + 1 := by omega
  have hle1 : w.heap.size ≤ w.heap.size + 1 := by omega
  simp only [rv]
  go_enter Try.func22, Try.ntmps22
  go_wp2_with (fail)
  generalize ((w.alloc (.cells #[.int .i64 x0, .int .i64 x1, .int .i64 x2, .string x3, .string x4, .string x5, .bool x6, .int .i64 x7, .string x8, .string x9, .int .i64 x10, .int .i64 x11] 42)).alloc (.cells #[.int .i64 0, .int .i64 0, .int .i64 0, .string ⟨#[]⟩, .string ⟨#[]⟩, .string ⟨#[]⟩, .bool false, .int .i64 0, .string ⟨#[]⟩, .string ⟨#[]⟩, .int .i64 0, .int .i64 0] 49)).alloc (.cells #[.int .i64 x0, .int .i64 x1, .int .i64 x2, .string x3, .string x4, .string x5, .bool x6, .int .i64 0, .string ⟨#[]⟩, .string ⟨#[]⟩, .int .i64 0, .int .i64 0] 49) = W0 at BO BR HB ⊢
  refine (CQ.out _).mono ?_
  rintro en w1 ⟨rfl, k1⟩
  have BO1 := hidIt (BO.out.kept k1)
  have BR1 := hidIt (BR.out.kept k1)
  have HB1 := hidIt (HB.out.trans (k1.mono HB.out.size))
  clear k1 BO BR HB CQ
  have o7 := BO1.out.c 7 (v := .int .i64 0) rfl
  have p7 := BO1.out.fr 7
  have o8 := BO1.out.c 8 (v := .string ⟨#[]⟩) rfl
  have p8 := BO1.out.fr 8
  have o9 := BO1.out.c 9 (v := .string ⟨#[]⟩) rfl
  have p9 := BO1.out.fr 9
  have o10 := BO1.out.c 10 (v := .int .i64 0) rfl
  have p10 := BO1.out.fr 10
  have o11 := BO1.out.c 11 (v := .int .i64 0) rfl
  have p11 := BO1.out.fr 11
  have BO2 := hidIt ((((((BO1.out).put (c' := #[.int .i64 x0, .int .i64 x1, .int .i64 x2, .string x3, .string x4, .string x5, .bool x6, .int .i64 x7, .string ⟨#[]⟩, .string ⟨#[]⟩, .int .i64 0, .int .i64 0]) 7 (.int .i64 x7) (by simp) rfl).put (c' := #[.int .i64 x0, .int .i64 x1, .int .i64 x2, .string x3, .string x4, .string x5, .bool x6, .int .i64 x7, .string x8, .string ⟨#[]⟩, .int .i64 0, .int .i64 0]) 8 (.string x8) (by simp) rfl).put (c' := #[.int .i64 x0, .int .i64 x1, .int .i64 x2, .string x3, .string x4, .string x5, .bool x6, .int .i64 x7, .string x8, .string x9, .int .i64 0, .int .i64 0]) 9 (.string x9) (by simp) rfl).put (c' := #[.int .i64 x0, .int .i64 x1, .int .i64 x2, .string x3, .string x4, .string x5, .bool x6, .int .i64 x7, .string x8, .string x9, .int .i64 x10, .int .i64 0]) 10 (.int .i64 x10) (by simp) rfl).put (c' := #[.int .i64 x0, .int .i64 x1, .int .i64 x2, .string x3, .string x4, .string x5, .bool x6, .int .i64 x7, .string x8, .string x9, .int .i64 x10, .int .i64 x11]) 11 (.int .i64 x11) (by simp) rfl)
  have BR2 := hidIt ((((((BR1.out).other (v := .int .i64 x7) (i := 7) ne21).other (v := .string x8) (i := 8) ne21).other (v := .string x9) (i := 9) ne21).other (v := .int .i64 x10) (i := 10) ne21).other (v := .int .i64 x11) (i := 11) ne21)
  have HB2 := hidIt ((((((HB1.out).setCell (p := ⟨w.heap.size + 1 + 1, 7, none⟩) hle (.int .i64 x7)).setCell (p := ⟨w.heap.size + 1 + 1, 8, none⟩) hle (.string x8)).setCell (p := ⟨w.heap.size + 1 + 1, 9, none⟩) hle (.string x9)).setCell (p := ⟨w.heap.size + 1 + 1, 10, none⟩) hle (.int .i64 x10)).setCell (p := ⟨w.heap.size + 1 + 1, 11, none⟩) hle (.int .i64 x11))
  have e0 := BO2.out.c 0 (v := .int .i64 x0) rfl
  have r0 := BR2.out.c 0 (v := .int .i64 0) rfl
  have f0 := BR2.out.fr 0
  have e1 := BO2.out.c 1 (v := .int .i64 x1) rfl
  have r1 := BR2.out.c 1 (v := .int .i64 0) rfl
  have f1 := BR2.out.fr 1
  have e2 := BO2.out.c 2 (v := .int .i64 x2) rfl
  have r2 := BR2.out.c 2 (v := .int .i64 0) rfl
  have f2 := BR2.out.fr 2
  have e3 := BO2.out.c 3 (v := .string x3) rfl
  have r3 := BR2.out.c 3 (v := .string ⟨#[]⟩) rfl
  have f3 := BR2.out.fr 3
  have e4 := BO2.out.c 4 (v := .string x4) rfl
  have r4 := BR2.out.c 4 (v := .string ⟨#[]⟩) rfl
  have f4 := BR2.out.fr 4
  have e5 := BO2.out.c 5 (v := .string x5) rfl
  have r5 := BR2.out.c 5 (v := .string ⟨#[]⟩) rfl
  have f5 := BR2.out.fr 5
  have e6 := BO2.out.c 6 (v := .bool x6) rfl
  have r6 := BR2.out.c 6 (v := .bool false) rfl
  have f6 := BR2.out.fr 6
  have e7 := BO2.out.c 7 (v := .int .i64 x7) rfl
  have r7 := BR2.out.c 7 (v := .int .i64 0) rfl
  have f7 := BR2.out.fr 7
  have e8 := BO2.out.c 8 (v := .string x8) rfl
  have r8 := BR2.out.c 8 (v := .string ⟨#[]⟩) rfl
  have f8 := BR2.out.fr 8
  have e9 := BO2.out.c 9 (v := .string x9) rfl
  have r9 := BR2.out.c 9 (v := .string ⟨#[]⟩) rfl
  have f9 := BR2.out.fr 9
  have e10 := BO2.out.c 10 (v := .int .i64 x10) rfl
  have r10 := BR2.out.c 10 (v := .int .i64 0) rfl
  have f10 := BR2.out.fr 10
  have e11 := BO2.out.c 11 (v := .int .i64 x11) rfl
  have r11 := BR2.out.c 11 (v := .int .i64 0) rfl
  have f11 := BR2.out.fr 11
  have BR3 := hidIt (((((((((((((BR2.out).put (c' := #[.int .i64 x0, .int .i64 0, .int .i64 0, .string ⟨#[]⟩, .string ⟨#[]⟩, .string ⟨#[]⟩, .bool false, .int .i64 0, .string ⟨#[]⟩, .string ⟨#[]⟩, .int .i64 0, .int .i64 0]) 0 (.int .i64 x0) (by simp) rfl).put (c' := #[.int .i64 x0, .int .i64 x1, .int .i64 0, .string ⟨#[]⟩, .string ⟨#[]⟩, .string ⟨#[]⟩, .bool false, .int .i64 0, .string ⟨#[]⟩, .string ⟨#[]⟩, .int .i64 0, .int .i64 0]) 1 (.int .i64 x1) (by simp) rfl).put (c' := #[.int .i64 x0, .int .i64 x1, .int .i64 x2, .string ⟨#[]⟩, .string ⟨#[]⟩, .string ⟨#[]⟩, .bool false, .int .i64 0, .string ⟨#[]⟩, .string ⟨#[]⟩, .int .i64 0, .int .i64 0]) 2 (.int .i64 x2) (by simp) rfl).put (c' := #[.int .i64 x0, .int .i64 x1, .int .i64 x2, .string x3, .string ⟨#[]⟩, .string ⟨#[]⟩, .bool false, .int .i64 0, .string ⟨#[]⟩, .string ⟨#[]⟩, .int .i64 0, .int .i64 0]) 3 (.string x3) (by simp) rfl).put (c' := #[.int .i64 x0, .int .i64 x1, .int .i64 x2, .string x3, .string x4, .string ⟨#[]⟩, .bool false, .int .i64 0, .string ⟨#[]⟩, .string ⟨#[]⟩, .int .i64 0, .int .i64 0]) 4 (.string x4) (by simp) rfl).put (c' := #[.int .i64 x0, .int .i64 x1, .int .i64 x2, .string x3, .string x4, .string x5, .bool false, .int .i64 0, .string ⟨#[]⟩, .string ⟨#[]⟩, .int .i64 0, .int .i64 0]) 5 (.string x5) (by simp) rfl).put (c' := #[.int .i64 x0, .int .i64 x1, .int .i64 x2, .string x3, .string x4, .string x5, .bool x6, .int .i64 0, .string ⟨#[]⟩, .string ⟨#[]⟩, .int .i64 0, .int .i64 0]) 6 (.bool x6) (by simp) rfl).put (c' := #[.int .i64 x0, .int .i64 x1, .int .i64 x2, .string x3, .string x4, .string x5, .bool x6, .int .i64 x7, .string ⟨#[]⟩, .string ⟨#[]⟩, .int .i64 0, .int .i64 0]) 7 (.int .i64 x7) (by simp) rfl).put (c' := #[.int .i64 x0, .int .i64 x1, .int .i64 x2, .string x3, .string x4, .string x5, .bool x6, .int .i64 x7, .string x8, .string ⟨#[]⟩, .int .i64 0, .int .i64 0]) 8 (.string x8) (by simp) rfl).put (c' := #[.int .i64 x0, .int .i64 x1, .int .i64 x2, .string x3, .string x4, .string x5, .bool x6, .int .i64 x7, .string x8, .string x9, .int .i64 0, .int .i64 0]) 9 (.string x9) (by simp) rfl).put (c' := #[.int .i64 x0, .int .i64 x1, .int .i64 x2, .string x3, .string x4, .string x5, .bool x6, .int .i64 x7, .string x8, .string x9, .int .i64 x10, .int .i64 0]) 10 (.int .i64 x10) (by simp) rfl).put (c' := #[.int .i64 x0, .int .i64 x1, .int .i64 x2, .string x3, .string x4, .string x5, .bool x6, .int .i64 x7, .string x8, .string x9, .int .i64 x10, .int .i64 x11]) 11 (.int .i64 x11) (by simp) rfl)
  have HB3 := hidIt (((((((((((((HB2.out).setCell (p := ⟨w.heap.size + 1, 0, none⟩) hle1 (.int .i64 x0)).setCell (p := ⟨w.heap.size + 1, 1, none⟩) hle1 (.int .i64 x1)).setCell (p := ⟨w.heap.size + 1, 2, none⟩) hle1 (.int .i64 x2)).setCell (p := ⟨w.heap.size + 1, 3, none⟩) hle1 (.string x3)).setCell (p := ⟨w.heap.size + 1, 4, none⟩) hle1 (.string x4)).setCell (p := ⟨w.heap.size + 1, 5, none⟩) hle1 (.string x5)).setCell (p := ⟨w.heap.size + 1, 6, none⟩) hle1 (.bool x6)).setCell (p := ⟨w.heap.size + 1, 7, none⟩) hle1 (.int .i64 x7)).setCell (p := ⟨w.heap.size + 1, 8, none⟩) hle1 (.string x8)).setCell (p := ⟨w.heap.size + 1, 9, none⟩) hle1 (.string x9)).setCell (p := ⟨w.heap.size + 1, 10, none⟩) hle1 (.int .i64 x10)).setCell (p := ⟨w.heap.size + 1, 11, none⟩) hle1 (.int .i64 x11))
  go_wp2_with (fail)
  generalize (((((((((((((((((w1).setCell ⟨w.heap.size + 1 + 1, 7, none⟩ (.int .i64 x7)).setCell ⟨w.heap.size + 1 + 1, 8, none⟩ (.string x8)).setCell ⟨w.heap.size + 1 + 1, 9, none⟩ (.string x9)).setCell ⟨w.heap.size + 1 + 1, 10, none⟩ (.int .i64 x10)).setCell ⟨w.heap.size + 1 + 1, 11, none⟩ (.int .i64 x11)).setCell ⟨w.heap.size + 1, 0, none⟩ (.int .i64 x0)).setCell ⟨w.heap.size + 1, 1, none⟩ (.int .i64 x1)).setCell ⟨w.heap.size + 1, 2, none⟩ (.int .i64 x2)).setCell ⟨w.heap.size + 1, 3, none⟩ (.string x3)).setCell ⟨w.heap.size + 1, 4, none⟩ (.string x4)).setCell ⟨w.heap.size + 1, 5, none⟩ (.string x5)).setCell ⟨w.heap.size + 1, 6, none⟩ (.bool x6)).setCell ⟨w.heap.size + 1, 7, none⟩ (.int .i64 x7)).setCell ⟨w.heap.size + 1, 8, none⟩ (.string x8)).setCell ⟨w.heap.size + 1, 9, none⟩ (.string x9)).setCell ⟨w.heap.size + 1, 10, none⟩ (.int .i64 x10)).setCell ⟨w.heap.size + 1, 11, none⟩ (.int .i64 x11) = W3 at BR3 HB3 ⊢
  clear o7 p7 o8 p8 o9 p9 o10 p10 o11 p11 e0 r0 f0 e1 r1 f1 e2 r2 f2 e3 r3 f3 e4 r4 f4 e5 r5 f5 e6 r6 f6 e7 r7 f7 e8 r8 f8 e9 r9 f9 e10 r10 f10 e11 r11 f11
  have y0 := BR3.out.c 0 (v := .int .i64 x0) rfl
  have y1 := BR3.out.c 1 (v := .int .i64 x1) rfl
  have y2 := BR3.out.c 2 (v := .int .i64 x2) rfl
  have y3 := BR3.out.c 3 (v := .string x3) rfl
  have y4 := BR3.out.c 4 (v := .string x4) rfl
  have y5 := BR3.out.c 5 (v := .string x5) rfl
  have y6 := BR3.out.c 6 (v := .bool x6) rfl
  have y7 := BR3.out.c 7 (v := .int .i64 x7) rfl
  have y8 := BR3.out.c 8 (v := .string x8) rfl
  have y9 := BR3.out.c 9 (v := .string x9) rfl
  have y10 := BR3.out.c 10 (v := .int .i64 x10) rfl
  have y11 := BR3.out.c 11 (v := .int .i64 x11) rfl
  refine bodyPost_ret (v := rv (x0, x1, x2, x3, x4, x5, x6, x7, x8, x9, x10, x11)) (by simp [results, Try.results22, go_sem, y0, y1, y2, y3, y4, y5, y6, y7, y8, y9, y10, y11]) rfl ⟨rfl, HB3.out⟩
set_option maxRecDepth 100000 in
set_option maxHeartbeats 8000000 in
theorem eqQ_same (x7 : Int) (x8 x9 : ByteArray) (x10 x11 : Int) (w : World) : Calls Try.prog 35 #[.agg #[.int .i64 x7, .string x8, .string x9, .int .i64 x10, .int .i64 x11], .agg #[.int .i64 x7, .string x8, .string x9, .int .i64 x10, .int .i64 x11]] w fun e w' => e = .returned (.bool true) ∧ Below w.heap.size w w' := by
  go_enter Try.func35, Try.ntmps35
  go_wp2
  go_ret
  exact ⟨rfl, by go_grown⟩
set_option maxRecDepth 100000 in
set_option maxHeartbeats 8000000 in
theorem eq_same (x : Rw) (w : World) : Calls Try.prog 26 #[rv x, rv x] w fun e w' => e = .returned (.bool true) ∧ Below w.heap.size w w' := by
  obtain ⟨x0, x1, x2, x3, x4, x5, x6, x7, x8, x9, x10, x11⟩ := x
  have hb6 : (x6 != x6) = false := by cases x6 <;> rfl
  have CQ := hidIt (fun W => eqQ_same x7 x8 x9 x10 x11 W)
  have HB : Hid (Below w.heap.size w ((w.alloc (.cells #[.int .i64 x0, .int .i64 x1, .int .i64 x2, .string x3, .string x4, .string x5, .bool x6, .int .i64 x7, .string x8, .string x9, .int .i64 x10, .int .i64 x11] 49)).alloc (.cells #[.int .i64 x0, .int .i64 x1, .int .i64 x2, .string x3, .string x4, .string x5, .bool x6, .int .i64 x7, .string x8, .string x9, .int .i64 x10, .int .i64 x11] 49))) := hidIt (((Below.refl w.heap.size w).alloc (Nat.le_refl _) _).alloc (by simp) _)
  simp only [rv]
  go_enter Try.func26, Try.ntmps26
  go_wp2_with (fail)
  refine (CQ.out _).mono ?_
  rintro en w1 ⟨rfl, k1⟩
  have HB1 := hidIt (HB.out.trans (k1.mono HB.out.size))
  clear k1
  go_wp2_with (fail)
  go_ret
  exact ⟨rfl, HB1.out⟩
set_option maxRecDepth 100000 in
set_option maxHeartbeats 8000000 in
theorem szQ_any (x7 : Int) (x8 x9 : ByteArray) (x10 x11 : Int) (l : Int) (w : World) (hs8 : x8.size ≤ 9223372036854775807) (hs9 : x9.size ≤ 9223372036854775807) (h0 : 0 ≤ l) (h1 : l ≤ 1048576) : Calls Try.prog 30 #[.agg #[.int .i64 x7, .string x8, .string x9, .int .i64 x10, .int .i64 x11], .int .i64 l] w fun e w' => ∃ r : Int, e = .returned (.int .i64 r) ∧ r ≤ l ∧ -1 ≤ r ∧ (0 ≤ r → x8.size ≤ 1048576 ∧ x9.size ≤ 1048576) ∧ Below w.heap.size w w' := by
  have p8 : -9223372036854775808 ≤ l - (x8.size : Int) := by omega
  have q8 : l - (x8.size : Int) ≤ 9223372036854775807 := by omega
  by_cases m8 : l - (x8.size : Int) < 0
  · go_enter Try.func30, Try.ntmps30
    go_wp2
    go_ret
    exact ⟨-1, rfl, by omega, by omega, fun h => by omega, by go_grown⟩
  have p9 : -9223372036854775808 ≤ l - (x8.size : Int) - (x9.size : Int) := by omega
  have q9 : l - (x8.size : Int) - (x9.size : Int) ≤ 9223372036854775807 := by omega
  by_cases m9 : l - (x8.size : Int) - (x9.size : Int) < 0
  · go_enter Try.func30, Try.ntmps30
    go_wp2
    go_ret
    exact ⟨-1, rfl, by omega, by omega, fun h => by omega, by go_grown⟩
  go_enter Try.func30, Try.ntmps30
  go_wp2
  go_ret
  exact ⟨_, rfl, by omega, by omega, fun _ => ⟨by omega, by omega⟩, by go_grown⟩
set_option maxRecDepth 100000 in
set_option maxHeartbeats 8000000 in
theorem sz_any (x : Rw) (l : Int) (w : World) (hs3 : x.2.2.2.1.size ≤ 9223372036854775807) (hs4 : x.2.2.2.2.1.size ≤ 9223372036854775807) (hs5 : x.2.2.2.2.2.1.size ≤ 9223372036854775807) (hs8 : x.2.2.2.2.2.2.2.2.1.size ≤ 9223372036854775807) (hs9 : x.2.2.2.2.2.2.2.2.2.1.size ≤ 9223372036854775807) (h0 : 0 ≤ l) (h1 : l ≤ 1048576) : Calls Try.prog 18 #[rv x, .int .i64 l] w fun e w' => ∃ r : Int, e = .returned (.int .i64 r) ∧ r ≤ l ∧ -1 ≤ r ∧ (0 ≤ r → x.2.2.2.1.size ≤ 1048576 ∧ x.2.2.2.2.1.size ≤ 1048576 ∧ x.2.2.2.2.2.1.size ≤ 1048576 ∧ x.2.2.2.2.2.2.2.2.1.size ≤ 1048576 ∧ x.2.2.2.2.2.2.2.2.2.1.size ≤ 1048576) ∧ Below w.heap.size w w' := by
  obtain ⟨x0, x1, x2, x3, x4, x5, x6, x7, x8, x9, x10, x11⟩ := x
  simp only at hs3 hs4 hs5 hs8 hs9
  have p3 : -9223372036854775808 ≤ l - (x3.size : Int) := by omega
  have q3 : l - (x3.size : Int) ≤ 9223372036854775807 := by omega
  by_cases m3 : l - (x3.size : Int) < 0
  · go_enter Try.func18, Try.ntmps18
    go_wp2
    go_ret
    exact ⟨-1, rfl, by omega, by omega, fun h => by omega, by go_grown⟩
  have p4 : -9223372036854775808 ≤ l - (x3.size : Int) - (x4.size : Int) := by omega
  have q4 : l - (x3.size : Int) - (x4.size : Int) ≤ 9223372036854775807 := by omega
  by_cases m4 : l - (x3.size : Int) - (x4.size : Int) < 0
  · go_enter Try.func18, Try.ntmps18
    go_wp2
    go_ret
    exact ⟨-1, rfl, by omega, by omega, fun h => by omega, by go_grown⟩
  have p5 : -9223372036854775808 ≤ l - (x3.size : Int) - (x4.size : Int) - (x5.size : Int) := by omega
  have q5 : l - (x3.size : Int) - (x4.size : Int) - (x5.size : Int) ≤ 9223372036854775807 := by omega
  by_cases m5 : l - (x3.size : Int) - (x4.size : Int) - (x5.size : Int) < 0
  · go_enter Try.func18, Try.ntmps18
    go_wp2
    go_ret
    exact ⟨-1, rfl, by omega, by omega, fun h => by omega, by go_grown⟩
  have CQ := hidIt (fun W => szQ_any x7 x8 x9 x10 x11 (l - (x3.size : Int) - (x4.size : Int) - (x5.size : Int)) W hs8 hs9 (by omega) (by omega))
  have HB : Hid (Below w.heap.size w (w.alloc (.cells #[.int .i64 x0, .int .i64 x1, .int .i64 x2, .string x3, .string x4, .string x5, .bool x6, .int .i64 x7, .string x8, .string x9, .int .i64 x10, .int .i64 x11] 42))) := hidIt ((Below.refl w.heap.size w).alloc (Nat.le_refl _) _)
  simp only [rv]
  go_enter Try.func18, Try.ntmps18
  go_wp2_with (fail)
  refine (CQ.out _).mono ?_
  rintro en w1 ⟨r, rfl, hr1, hr2, hr3, k1⟩
  have HB1 := hidIt (HB.out.trans (k1.mono HB.out.size))
  have HR3 := hidIt hr3
  clear k1 hr3
  by_cases hneg : r < 0
  · go_wp2_with (fail)
    go_ret
    exact ⟨-1, rfl, by omega, by omega, fun h => by omega, HB1.out⟩
  · go_wp2_with (fail)
    go_ret
    exact ⟨r, rfl, by omega, by omega, fun h => ⟨by omega, by omega, by omega, (HR3.out h).1, (HR3.out h).2⟩, HB1.out⟩
set_option maxRecDepth 100000 in
set_option maxHeartbeats 4000000 in
theorem szS_any (a : Option Addr) (cap : Nat) (L : List Rw) (l : Int) (w : World) (h : Rd w a L) (hl : L.length ≤ 9223372036854775807) (hs : ∀ i, i < L.length → (rat L i).2.2.2.1.size ≤ 9223372036854775807 ∧ (rat L i).2.2.2.2.1.size ≤ 9223372036854775807 ∧ (rat L i).2.2.2.2.2.1.size ≤ 9223372036854775807 ∧ (rat L i).2.2.2.2.2.2.2.2.1.size ≤ 9223372036854775807 ∧ (rat L i).2.2.2.2.2.2.2.2.2.1.size ≤ 9223372036854775807) (h0 : 0 ≤ l) (h1 : l ≤ 1048576) :
    Calls Try.prog 5 #[.slice a L.length cap, .int .i64 l] w fun e w' => ∃ r : Int, e = .returned (.int .i64 r) ∧ Le2 r l L.length ∧ (0 ≤ r → L.length ≤ 1048576 ∧ ∀ i, i < L.length → (rat L i).2.2.2.1.size ≤ 1048576 ∧ (rat L i).2.2.2.2.1.size ≤ 1048576 ∧ (rat L i).2.2.2.2.2.1.size ≤ 1048576 ∧ (rat L i).2.2.2.2.2.2.2.2.1.size ≤ 1048576 ∧ (rat L i).2.2.2.2.2.2.2.2.2.1.size ≤ 1048576) ∧ Below w.heap.size w w' := by
  generalize hn : L.length = m at *
  have HR := hidIt h
  have HN := hidIt hn
  have HS := hidIt hs
  clear h hn hs
  have h2 : -9223372036854775808 ≤ l - (m : Int) := by omega
  have h3 : l - (m : Int) ≤ 9223372036854775807 := by omega
  by_cases hs2 : l - (m : Int) < 0
  · go_enter Try.func5, Try.ntmps5
    go_wp2
    go_ret
    exact ⟨-1, rfl, ⟨by omega, fun h => by omega⟩, fun h => by omega, Below.refl _ _⟩
  · have hn2 : m ≤ 1048576 := by omega
    go_enter Try.func5, Try.ntmps5
    go_wp2_with (fail)
    go_loopw [1, 5] (fun z y wx => ∃ (i : Nat) (r : Int), y = .int .i64 i ∧ z = .int .i64 r ∧ 0 ≤ r ∧ r + (m : Int) ≤ l ∧ i ≤ m ∧ Hid (∀ j, j < i → (rat L j).2.2.2.1.size ≤ 1048576 ∧ (rat L j).2.2.2.2.1.size ≤ 1048576 ∧ (rat L j).2.2.2.2.2.1.size ≤ 1048576 ∧ (rat L j).2.2.2.2.2.2.2.2.1.size ≤ 1048576 ∧ (rat L j).2.2.2.2.2.2.2.2.2.1.size ≤ 1048576) ∧ Hid (Below w.heap.size w wx)) (fun _ y _ => (m - intOf y).toNat)
    case atStart => exact ⟨0, _, rfl, rfl, by omega, by omega, by omega, hidIt (fun j hj => by omega), hidIt (Below.refl _ _)⟩
    case round =>
      obtain ⟨i, r, rfl, rfl, r0, r1, hi, HJ, HB⟩ := hrel
      have HRx := hidIt (HR.out.kept HB.out)
      by_cases hin : i < m
      · have hin' : (i : Int) < (m : Int) := by omega
        obtain ⟨b, off, rfl, c0, c1, c2, c3, c4, c5, c6, c7, c8, c9, c10, c11⟩ := HRx.out.all (i := i) (by rw [HN.out]; exact hin)
        have hC := fun W => sz_any (rat L i) r W (HS.out i hin).1 (HS.out i hin).2.1 (HS.out i hin).2.2.1 (HS.out i hin).2.2.2.1 (HS.out i hin).2.2.2.2 r0 (by omega)
        generalize hx : rat L i = x at c0 c1 c2 c3 c4 c5 c6 c7 c8 c9 c10 c11 hC
        have HX := hidIt hx
        clear hx
        obtain ⟨x0, x1, x2, x3, x4, x5, x6, x7, x8, x9, x10, x11⟩ := x
        simp only [rv] at hC c0 c1 c2 c3 c4 c5 c6 c7 c8 c9 c10 c11
        have HC := hidIt hC
        clear hC
        go_wp2_with (fail)
        refine (HC.out _).mono ?_
        rintro e w1 ⟨r', rfl, hr', hr0, hsz, hb1⟩
        have HB1 := hidIt (HB.out.trans (hb1.mono HB.out.size))
        have HZ := hidIt hsz
        clear hb1 HRx HB HC hsz
        by_cases hneg : r' < 0
        · go_wp2_with (fail)
          go_ret
          exact ⟨-1, rfl, ⟨by omega, fun h => by omega⟩, fun h => by omega, HB1.out⟩
        · go_wp2_with (fail)
          refine ⟨⟨i + 1, r', by simp, rfl, by omega, by omega, by omega, hidIt (fun j hj => ?_), HB1⟩, by simp [intOf]; omega⟩
          rcases Nat.lt_succ_iff_lt_or_eq.1 hj with h | h
          · exact HJ.out j h
          · subst h; rw [HX.out]; exact HZ.out (by omega)
      · have hin' : ¬ (i : Int) < (m : Int) := by omega
        have HI : Hid (i = m) := hidIt (by omega)
        go_wp2_with (fail)
        go_ret
        first | exact ⟨r, rfl, ⟨by omega, fun _ => by omega⟩, fun _ => ⟨hn2, fun j hj => HJ.out j (by have := HI.out; omega)⟩, HB.out⟩ | exact ⟨r, rfl, ⟨by omega, fun _ => by omega⟩, fun _ => fun j hj => HJ.out j (by have := HI.out; omega), HB.out⟩ | exact ⟨r, rfl, ⟨by omega, fun _ => by omega⟩, fun j hj => HJ.out j (by have := HI.out; omega), HB.out⟩
theorem rcells_zero (m : Nat) : rcells (List.replicate m (0, 0, 0, ByteArray.empty, ByteArray.empty, ByteArray.empty, false, 0, ByteArray.empty, ByteArray.empty, 0, 0)) = (madeCells #[.int .i64 0, .int .i64 0, .int .i64 0, .string ByteArray.empty, .string ByteArray.empty, .string ByteArray.empty, .bool false, .int .i64 0, .string ByteArray.empty, .string ByteArray.empty, .int .i64 0, .int .i64 0] (m * 12)).toList := by
  apply List.ext_getElem?
  intro x
  by_cases hx : x < m * 12
  · have e : x = x / 12 * 12 + x % 12 := by omega
    have h1 := rcells_get (List.replicate m (0, 0, 0, ByteArray.empty, ByteArray.empty, ByteArray.empty, false, 0, ByteArray.empty, ByteArray.empty, 0, 0)) (x / 12) (x % 12) (by rw [List.length_replicate]; omega) (by omega)
    rw [← e] at h1
    have h2 : rat (List.replicate m (0, 0, 0, ByteArray.empty, ByteArray.empty, ByteArray.empty, false, 0, ByteArray.empty, ByteArray.empty, 0, 0)) (x / 12) = (0, 0, 0, ByteArray.empty, ByteArray.empty, ByteArray.empty, false, 0, ByteArray.empty, ByteArray.empty, 0, 0) := by
      rw [rat_at (by rw [List.length_replicate]; omega), List.getElem_replicate]
    rw [h1, h2]
    have h3 : x % 12 = 0 ∨ x % 12 = 1 ∨ x % 12 = 2 ∨ x % 12 = 3 ∨ x % 12 = 4 ∨ x % 12 = 5 ∨ x % 12 = 6 ∨ x % 12 = 7 ∨ x % 12 = 8 ∨ x % 12 = 9 ∨ x % 12 = 10 ∨ x % 12 = 11 := by omega
    rcases h3 with h | h | h | h | h | h | h | h | h | h | h | h <;> simp [madeCells, hx, h, rcell]
  · rw [List.getElem?_eq_none (by rw [rcells_length, List.length_replicate]; omega), List.getElem?_eq_none (by simp [madeCells]; omega)]
set_option maxRecDepth 100000 in
set_option maxHeartbeats 4000000 in
theorem toS_any (a : Option Addr) (cap : Nat) (L : List Rw) (w : World) (h : Rd w a L) (hl : L.length ≤ 1048576) :
    Calls Try.prog 8 #[.slice a L.length cap] w fun e w' => ∃ v, e = .returned v ∧ Own w' w.heap.size v L ∧ Below w.heap.size w w' := by
  generalize hn : L.length = m at *
  obtain ⟨i0, hi, hz0, hz1, hz2⟩ := info_parts infoRw
  have HR := hidIt h
  have HN := hidIt hn
  clear h hn
  go_enter Try.func8, Try.ntmps8
  go_wp2_with (first
    | (at_make; refine wpList_make_full _ rfl _ _ 26 rfl w.heap.size 49 i0 (.agg #[.int .i64 0, .int .i64 0, .int .i64 0, .string ByteArray.empty, .string ByteArray.empty, .string ByteArray.empty, .bool false, .int .i64 0, .string ByteArray.empty, .string ByteArray.empty, .int .i64 0, .int .i64 0]) 12 Try.underlying26 hi hz0 hz1 _ _ _ _ m rfl rfl (by omega) (by omega) (by rw [hz2]; omega) (by unfold maxLen; omega) (Nat.le_refl _) ?_)
    | fail)
  intro w1 hown hgrow
  have HO : Hid (Own w1 w.heap.size (.slice (some ⟨w.heap.size, 0, none⟩) m m) (List.replicate m (0, 0, 0, ByteArray.empty, ByteArray.empty, ByteArray.empty, false, 0, ByteArray.empty, ByteArray.empty, 0, 0))) := by
    refine hidIt ?_
    unfold Own
    rw [List.length_replicate, rcells_zero]
    exact hown
  have HB := hidIt ((Below.refl w.heap.size w).grown hgrow (Nat.le_refl _) (fun k hk => by cases hk))
  clear hown hgrow
  go_wp2_with (fail)
  go_loopw [4] (fun y wx => ∃ (i : Nat) (M : List Rw), y = .int .i64 i ∧ i ≤ m ∧ M.length = m ∧ Hid (∀ j, j < i → rat M j = rat L j) ∧ Hid (Own wx w.heap.size (.slice (some ⟨w.heap.size, 0, none⟩) m m) M) ∧ Hid (Below w.heap.size w wx)) (fun y _ => (m - intOf y).toNat)
  case atStart => exact ⟨0, _, rfl, by omega, by simp, hidIt (fun j hj => by omega), HO, HB⟩
  case round =>
    obtain ⟨i, M, rfl, hin0, hM, hE, HOx, HBx⟩ := hrel
    have HRx := hidIt (HR.out.kept HBx.out)
    have HM := hidIt hM
    clear HO HB hM
    by_cases hin : i < m
    · have hin' : (i : Int) < (m : Int) := by omega
      obtain ⟨b, off, rfl, c0, c1, c2, c3, c4, c5, c6, c7, c8, c9, c10, c11⟩ := HRx.out.all (i := i) (by rw [HN.out]; exact hin)
      generalize hx : rat L i = x at c0 c1 c2 c3 c4 c5 c6 c7 c8 c9 c10 c11
      have HX := hidIt hx
      clear hx
      obtain ⟨x0, x1, x2, x3, x4, x5, x6, x7, x8, x9, x10, x11⟩ := x
      simp only at c0 c1 c2 c3 c4 c5 c6 c7 c8 c9 c10 c11
      have hC := to_any (x0, x1, x2, x3, x4, x5, x6, x7, x8, x9, x10, x11)
      simp only [rv] at hC
      have HC := hidIt hC
      clear hC
      go_wp2_with (fail)
      refine (HC.out _).mono ?_
      rintro e w2 ⟨rfl, hb2⟩
      have HB2 := hidIt (HBx.out.trans (hb2.mono HBx.out.size))
      have HO2 := hidIt (HOx.out.kept hb2)
      have hiM : i < M.length := by rw [HM.out]; exact hin
      have HO3 := hidIt (HO2.out.whole hiM (x0, x1, x2, x3, x4, x5, x6, x7, x8, x9, x10, x11))
      have z0 := HO2.out.at hiM (j := 0) (by omega)
      have z1 := HO2.out.at hiM (j := 1) (by omega)
      have z2 := HO2.out.at hiM (j := 2) (by omega)
      have z3 := HO2.out.at hiM (j := 3) (by omega)
      have z4 := HO2.out.at hiM (j := 4) (by omega)
      have z5 := HO2.out.at hiM (j := 5) (by omega)
      have z6 := HO2.out.at hiM (j := 6) (by omega)
      have z7 := HO2.out.at hiM (j := 7) (by omega)
      have z8 := HO2.out.at hiM (j := 8) (by omega)
      have z9 := HO2.out.at hiM (j := 9) (by omega)
      have z10 := HO2.out.at hiM (j := 10) (by omega)
      have z11 := HO2.out.at hiM (j := 11) (by omega)
      have f0 := HO2.out.free (i * 12)
      have f1 := HO2.out.free (i * 12 + 1)
      have f2 := HO2.out.free (i * 12 + 2)
      have f3 := HO2.out.free (i * 12 + 3)
      have f4 := HO2.out.free (i * 12 + 4)
      have f5 := HO2.out.free (i * 12 + 5)
      have f6 := HO2.out.free (i * 12 + 6)
      have f7 := HO2.out.free (i * 12 + 7)
      have f8 := HO2.out.free (i * 12 + 8)
      have f9 := HO2.out.free (i * 12 + 9)
      have f10 := HO2.out.free (i * 12 + 10)
      have f11 := HO2.out.free (i * 12 + 11)
      simp only [rcell, Nat.add_zero] at z0 z1 z2 z3 z4 z5 z6 z7 z8 z9 z10 z11
      clear hb2 HRx HBx HOx HO2 HC
      have HMi := hidIt hiM
      clear hiM
      go_wp2_with (fail)
      refine ⟨⟨i + 1, _, by simp, by omega, by rw [List.length_set]; exact HM.out, hidIt (fun j hj => ?_), HO3, hidIt ((((((((((((HB2.out.setCell (by simp) _).setCell (by simp) _).setCell (by simp) _).setCell (by simp) _).setCell (by simp) _).setCell (by simp) _).setCell (by simp) _).setCell (by simp) _).setCell (by simp) _).setCell (by simp) _).setCell (by simp) _).setCell (by simp) _)⟩, by simp [intOf]; omega⟩
      rw [rat_set HMi.out]
      split
      · next e => subst e; exact HX.out.symm
      · exact hE.out j (by omega)
    · have hin' : ¬ (i : Int) < (m : Int) := by omega
      have e : M = L := ext_rat (by rw [HM.out, HN.out]) (fun j hj => hE.out j (by rw [HM.out] at hj; omega))
      subst e
      go_wp2_with (fail)
      go_ret
      exact ⟨_, rfl, HOx.out, HBx.out⟩
set_option maxRecDepth 100000 in
set_option maxHeartbeats 4000000 in
theorem eqS_same (a a' : Option Addr) (cap cap' : Nat) (L : List Rw) (w : World) (h : Rd w a L) (h' : Rd w a' L) (hl : L.length ≤ 9223372036854775807) :
    Calls Try.prog 11 #[.slice a L.length cap, .slice a' L.length cap'] w fun e w' => e = .returned (.bool true) ∧ Below w.heap.size w w' := by
  generalize hn : L.length = m at *
  have HA := hidIt h
  have HA' := hidIt h'
  have HN := hidIt hn
  clear h h' hn
  have hmm : ((m : Int) != (m : Int)) = false := by simp
  go_enter Try.func11, Try.ntmps11
  go_wp2_with (fail)
  go_loopw [5] (fun y wx => ∃ i : Nat, y = .int .i64 i ∧ i ≤ m ∧ Hid (Below w.heap.size w wx)) (fun y _ => (m - intOf y).toNat)
  case atStart => exact ⟨0, rfl, by omega, hidIt (Below.refl _ _)⟩
  case round =>
    obtain ⟨i, rfl, hi, hB⟩ := hrel
    by_cases hin : i < m
    · have hin' : (i : Int) < (m : Int) := by omega
      obtain ⟨b, off, rfl, c0, c1, c2, c3, c4, c5, c6, c7, c8, c9, c10, c11⟩ := (HA.out.kept hB.out).all (i := i) (by rw [HN.out]; exact hin)
      obtain ⟨b', off', rfl, d0, d1, d2, d3, d4, d5, d6, d7, d8, d9, d10, d11⟩ := (HA'.out.kept hB.out).all (i := i) (by rw [HN.out]; exact hin)
      have hC := eq_same (rat L i)
      generalize rat L i = x at c0 c1 c2 c3 c4 c5 c6 c7 c8 c9 c10 c11 d0 d1 d2 d3 d4 d5 d6 d7 d8 d9 d10 d11 hC
      obtain ⟨x0, x1, x2, x3, x4, x5, x6, x7, x8, x9, x10, x11⟩ := x
      simp only [rv] at hC c0 c1 c2 c3 c4 c5 c6 c7 c8 c9 c10 c11 d0 d1 d2 d3 d4 d5 d6 d7 d8 d9 d10 d11
      have HC := hidIt hC
      clear hC
      haveI := BelowBy.one wr
      have g0 := fun p : BelowBy wr => p.cell c0
      have g1 := fun p : BelowBy wr => p.cell c1
      have g2 := fun p : BelowBy wr => p.cell c2
      have g3 := fun p : BelowBy wr => p.cell c3
      have g4 := fun p : BelowBy wr => p.cell c4
      have g5 := fun p : BelowBy wr => p.cell c5
      have g6 := fun p : BelowBy wr => p.cell c6
      have g7 := fun p : BelowBy wr => p.cell c7
      have g8 := fun p : BelowBy wr => p.cell c8
      have g9 := fun p : BelowBy wr => p.cell c9
      have g10 := fun p : BelowBy wr => p.cell c10
      have g11 := fun p : BelowBy wr => p.cell c11
      have k0 := fun p : BelowBy wr => p.cell d0
      have k1 := fun p : BelowBy wr => p.cell d1
      have k2 := fun p : BelowBy wr => p.cell d2
      have k3 := fun p : BelowBy wr => p.cell d3
      have k4 := fun p : BelowBy wr => p.cell d4
      have k5 := fun p : BelowBy wr => p.cell d5
      have k6 := fun p : BelowBy wr => p.cell d6
      have k7 := fun p : BelowBy wr => p.cell d7
      have k8 := fun p : BelowBy wr => p.cell d8
      have k9 := fun p : BelowBy wr => p.cell d9
      have k10 := fun p : BelowBy wr => p.cell d10
      have k11 := fun p : BelowBy wr => p.cell d11
      go_wp2_with (fail)
      refine wp_region_below (by kernel_rfl) (by kernel_rfl) ?_
      repeat (go_big_quiet_step (first | (go_at_call 26; refine calls_below (HC.out _))))
      refine wpQuiet_nil ?_
      intro _ hw'
      obtain ⟨pq, rfl⟩ := hw'
      have hB1 := hidIt (hB.out.trans (pq.h.mono hB.out.size))
      generalize pq.world = w2 at hB1 ⊢
      clear c0 c1 c2 c3 c4 c5 c6 c7 c8 c9 c10 c11 d0 d1 d2 d3 d4 d5 d6 d7 d8 d9 d10 d11 g0 g1 g2 g3 g4 g5 g6 g7 g8 g9 g10 g11 k0 k1 k2 k3 k4 k5 k6 k7 k8 k9 k10 k11
      go_wp2_with (fail)
      exact ⟨⟨i + 1, by simp, by omega, hB1⟩, by simp [intOf]; omega⟩
    · have hin' : ¬ (i : Int) < (m : Int) := by omega
      go_wp2_with (fail)
      go_ret
      exact ⟨rfl, hB.out⟩
end Go.Proofs.Ytbdibkcamomgpaa.Ac
