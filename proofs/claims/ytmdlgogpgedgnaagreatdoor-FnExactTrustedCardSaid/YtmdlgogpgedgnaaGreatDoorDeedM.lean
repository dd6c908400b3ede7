/-
  A Seal (six numbers) and a Deed (a text, a row of Points, a Seal): what the laws do with them: toSeal, eqSeal, szDeed, toDeed, eqDeed.
-/
import Derived.Test.YtmdlgogpgedgnaaGreatDoorBoxM
import Derived.Test.YtmdlgogpgedgnaaGreatDoorPtL
import Derived.Test.YtmdlgogpgedgnaaGreatDoorLawC

import Derived.Test.YtmdlgogpgedgnaaGreatDoorSignW
import Derived.Test.YtmdlgogpgedgnaaGreatDoorDeedS
namespace Go.Proofs.YtmdlgogpgedgnaaGreatDoor.Dd
open Go.ChangeShapes Go.WideShapes Go.ChangeAt Go.RowKit
open Cv Cu Sg
open Go.Proofs.YtmdlgogpgedgnaaGreatDoor.Bo (Box Box.new Box.newAt Box.kept Box.alloc Box.put Box.other Box.c Box.drew)
set_option linter.unusedVariables false
set_option maxRecDepth 100000 in
set_option maxHeartbeats 4000000 in
theorem toSeal_any (k1 k2 u r1 r2 t : Int) (w : World) : Calls Tryz.prog 7 #[sv k1 k2 u r1 r2 t] w fun e w' => e = .returned (sv k1 k2 u r1 r2 t) ∧ Below w.heap.size w w' := by
  have BA := hidIt ((((Box.new w (sc k1 k2 u r1 r2 t) 28).alloc (.cells (sc 0 0 0 0 0 0) 38)).alloc (.cells (sc 0 0 0 0 0 0) 38)))
  have BB : Hid (Box (((w.alloc (.cells (sc k1 k2 u r1 r2 t) 28)).alloc (.cells (sc 0 0 0 0 0 0) 38)).alloc (.cells (sc 0 0 0 0 0 0) 38)) (w.heap.size + 1) (sc 0 0 0 0 0 0)) := hidIt ((Box.newAt (by simp)).alloc _)
  have BC : Hid (Box (((w.alloc (.cells (sc k1 k2 u r1 r2 t) 28)).alloc (.cells (sc 0 0 0 0 0 0) 38)).alloc (.cells (sc 0 0 0 0 0 0) 38)) (w.heap.size + 1 + 1) (sc 0 0 0 0 0 0)) := hidIt (Box.newAt (by simp))
  have HB : Hid (Below w.heap.size w (((w.alloc (.cells (sc k1 k2 u r1 r2 t) 28)).alloc (.cells (sc 0 0 0 0 0 0) 38)).alloc (.cells (sc 0 0 0 0 0 0) 38))) := hidIt ((((Below.refl w.heap.size w).alloc (Nat.le_refl _) _).alloc (by simp) _).alloc (by simp; omega) _)
  go_enter Tryz.func7, Tryz.ntmps7
  go_wp2_with (fail)
  refine (toPoint_any _ _ _).mono ?_
  rintro e w1 ⟨rfl, k⟩
  replace BA := hidIt (BA.out.kept k)
  replace BB := hidIt (BB.out.kept k)
  replace BC := hidIt (BC.out.kept k)
  replace HB := hidIt (HB.out.trans (k.mono HB.out.size))
  clear k
  have ne1 : w.heap.size ≠ w.heap.size + 1 + 1 := by omega
  have ne2 : w.heap.size + 1 ≠ w.heap.size + 1 + 1 := by omega
  have ne3 : w.heap.size + 1 + 1 ≠ w.heap.size := by omega
  have ne4 : w.heap.size + 1 + 1 ≠ w.heap.size + 1 := by omega
  have hle : w.heap.size ≤ w.heap.size + 1 + 1 := by omega
  have hle1 : w.heap.size ≤ w.heap.size + 1 := by omega
  generalize w.heap.size + 1 + 1 = n2 at *
  generalize w.heap.size + 1 = n1 at *
  have a2 := BA.out.c 2 rfl
  have a3 := BA.out.c 3 rfl
  have a4 := BA.out.c 4 rfl
  have a5 := BA.out.c 5 rfl
  have c0 := BC.out.c 0 rfl
  have c1 := BC.out.c 1 rfl
  have c2 := BC.out.c 2 rfl
  have f0 := BC.out.fr 0
  have f1 := BC.out.fr 1
  have f2 := BC.out.fr 2
  go_wp2_with (fail)
  refine (toSig_any _ _ _ _).mono ?_
  rintro e w2 ⟨rfl, k⟩
  replace BC : Hid (Box w2 n2 (sc k1 k2 u 0 0 0)) := hidIt ((((BC.out.put (c' := sc k1 0 0 0 0 0) 0 (.int .i64 k1) (by simp) rfl).put (c' := sc k1 k2 0 0 0 0) 1 (.int .i64 k2) (by simp) rfl).put 2 (.int .i64 u) (by simp) rfl).kept k)
  replace BB := hidIt ((((BB.out.other (v := .int .i64 k1) (i := 0) ne4).other (v := .int .i64 k2) (i := 1) ne4).other (v := .int .i64 u) (i := 2) ne4).kept k)
  replace HB := hidIt ((((HB.out.setCell (p := ⟨n2, 0, none⟩) hle (.int .i64 k1)).setCell (p := ⟨n2, 1, none⟩) hle (.int .i64 k2)).setCell (p := ⟨n2, 2, none⟩) hle (.int .i64 u)).trans (k.mono (by simpa using HB.out.size)))
  clear k a2 a3 a4 a5 c0 c1 c2 f0 f1 f2 BA
  have c0 := BC.out.c 0 rfl
  have c1 := BC.out.c 1 rfl
  have c2 := BC.out.c 2 rfl
  have c3 := BC.out.c 3 rfl
  have c4 := BC.out.c 4 rfl
  have c5 := BC.out.c 5 rfl
  have f3 := BC.out.fr 3
  have f4 := BC.out.fr 4
  have f5 := BC.out.fr 5
  have b0 := BB.out.c 0 rfl
  have b1 := BB.out.c 1 rfl
  have b2 := BB.out.c 2 rfl
  have b3 := BB.out.c 3 rfl
  have b4 := BB.out.c 4 rfl
  have b5 := BB.out.c 5 rfl
  have d0 := BB.out.fr 0
  have d1 := BB.out.fr 1
  have d2 := BB.out.fr 2
  have d3 := BB.out.fr 3
  have d4 := BB.out.fr 4
  have d5 := BB.out.fr 5
  go_wp2_with (fail)
  have BZ := ((((((((BB.out.other (v := .int .i64 r1) (i := 3) ne4).other (v := .int .i64 r2) (i := 4) ne4).other (v := .int .i64 t) (i := 5) ne4).put (c' := sc k1 0 0 0 0 0) 0 (.int .i64 k1) (by simp) rfl).put (c' := sc k1 k2 0 0 0 0) 1 (.int .i64 k2) (by simp) rfl).put (c' := sc k1 k2 u 0 0 0) 2 (.int .i64 u) (by simp) rfl).put (c' := sc k1 k2 u r1 0 0) 3 (.int .i64 r1) (by simp) rfl).put (c' := sc k1 k2 u r1 r2 0) 4 (.int .i64 r2) (by simp) rfl).put (c' := sc k1 k2 u r1 r2 t) 5 (.int .i64 t) (by simp) rfl
  refine bodyPost_ret (v := sv k1 k2 u r1 r2 t) ?_ rfl ⟨rfl, ?_⟩
  · refine ret_box BZ (fun w9 j => ?_)
    have j0 := j.c 0 rfl
    have j1 := j.c 1 rfl
    have j2 := j.c 2 rfl
    have j3 := j.c 3 rfl
    have j4 := j.c 4 rfl
    have j5 := j.c 5 rfl
    clear BZ c0 c1 c2 c3 c4 c5 b0 b1 b2 b3 b4 b5 d0 d1 d2 d3 d4 d5 f3 f4 f5
    simp [results, Tryz.results7, go_sem, j0, j1, j2, j3, j4, j5]
  · exact (((((((((HB.out.setCell (p := ⟨n2, 3, none⟩) hle _).setCell (p := ⟨n2, 4, none⟩) hle _).setCell (p := ⟨n2, 5, none⟩) hle _).setCell (p := ⟨n1, 0, none⟩) hle1 _).setCell (p := ⟨n1, 1, none⟩) hle1 _).setCell (p := ⟨n1, 2, none⟩) hle1 _).setCell (p := ⟨n1, 3, none⟩) hle1 _).setCell (p := ⟨n1, 4, none⟩) hle1 _).setCell (p := ⟨n1, 5, none⟩) hle1 _)
set_option maxRecDepth 100000 in
set_option maxHeartbeats 4000000 in
theorem eqSeal_same (k1 k2 u r1 r2 t : Int) (w : World) : Calls Tryz.prog 22 #[sv k1 k2 u r1 r2 t, sv k1 k2 u r1 r2 t] w fun e w' => e = .returned (.bool true) ∧ Below w.heap.size w w' := by
  have BA := hidIt ((Box.new w (sc k1 k2 u r1 r2 t) 38).alloc (.cells (sc k1 k2 u r1 r2 t) 38))
  have BB : Hid (Box ((w.alloc (.cells (sc k1 k2 u r1 r2 t) 38)).alloc (.cells (sc k1 k2 u r1 r2 t) 38)) (w.heap.size + 1) (sc k1 k2 u r1 r2 t)) := hidIt (Box.newAt (by simp))
  have HB : Hid (Below w.heap.size w ((w.alloc (.cells (sc k1 k2 u r1 r2 t) 38)).alloc (.cells (sc k1 k2 u r1 r2 t) 38))) := hidIt (((Below.refl w.heap.size w).alloc (Nat.le_refl _) _).alloc (by simp) _)
  have hu : (u != u) = false := by simp
  go_enter Tryz.func22, Tryz.ntmps22
  go_wp2_with (fail)
  refine (eqPoint_same _ _ _).mono ?_
  rintro e w1 ⟨rfl, k⟩
  replace BA := hidIt (BA.out.kept k)
  replace BB := hidIt (BB.out.kept k)
  replace HB := hidIt (HB.out.trans (k.mono HB.out.size))
  clear k
  generalize w.heap.size + 1 = n1 at *
  have a2 := BA.out.c 2 rfl
  have a3 := BA.out.c 3 rfl
  have a4 := BA.out.c 4 rfl
  have a5 := BA.out.c 5 rfl
  have b2 := BB.out.c 2 rfl
  have b3 := BB.out.c 3 rfl
  have b4 := BB.out.c 4 rfl
  have b5 := BB.out.c 5 rfl
  go_wp2_with (fail)
  refine (eqSig_same _ _ _ _).mono ?_
  rintro e w2 ⟨rfl, k⟩
  replace HB := hidIt (HB.out.trans (k.mono HB.out.size))
  clear k a2 a3 a4 a5 b2 b3 b4 b5 BA BB
  go_wp2_with (fail)
  go_ret
  exact ⟨rfl, HB.out⟩
end Go.Proofs.YtmdlgogpgedgnaaGreatDoor.Dd
