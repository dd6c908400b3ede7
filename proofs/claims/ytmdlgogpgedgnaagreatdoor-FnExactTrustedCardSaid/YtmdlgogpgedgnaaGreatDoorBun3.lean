/-
  What the laws do with a list of Points: szPointS, toPointS, eqPointS, markPointS, heldPointS.
  A Seal (six numbers) and a Deed (a text, a row of Points, a Seal): what the laws do with them: toSeal, eqSeal, szDeed, toDeed, eqDeed.
  What the laws do with a Deed: szDeed, toDeed, eqDeed.
  A list of Points that came in: what is read of it.
  A Seal and a Deed that came in: what is read of them.
-/
import Derived.Test.YtmdlgogpgedgnaaGreatDoorBun2
import Derived.Test.YtmdlgogpgedgnaaGreatDoorLawC
import Derived.Deep.RegionHeld3
import Derived.Test.YtmdlgogpgedgnaaGreatDoorBoxM
import Derived.Test.YtmdlgogpgedgnaaGreatDoorBun1
import Derived.Deep.SlicePairs
import Derived.OpenShut
import Derived.Lib.SmallJoins
import Derived.Deep.Strs
namespace Go.Proofs.YtmdlgogpgedgnaaGreatDoor.Pt
open Go.ChangeShapes Go.WideShapes Go.ChangeAt Go.RowKit
open Cv Cu
set_option linter.unusedVariables false
set_option maxRecDepth 100000 in
theorem szPointS_any (a : Option Addr) (cap n : Nat) (l : Int) (w : World) (hl : n ≤ 9223372036854775807) (h0 : 0 ≤ l) (h1 : l ≤ 1048576) :
    Calls Tryz.prog 10 #[.slice a n cap, .int .i64 l] w fun e w' => ∃ r : Int, e = .returned (.int .i64 r) ∧ r ≤ l ∧ -1 ≤ r ∧ (0 ≤ r → n ≤ 1048576) ∧ w' = w := by
  have h2 : -9223372036854775808 ≤ l - (n : Int) := by omega
  have h3 : l - (n : Int) ≤ 9223372036854775807 := by omega
  by_cases hs2 : l - (n : Int) < 0
  · go_enter Tryz.func10, Tryz.ntmps10
    go_wp2
    go_ret
    exact ⟨-1, rfl, by omega, by omega, fun h => by omega, rfl⟩
  · have hn2 : n ≤ 1048576 := by omega
    go_enter Tryz.func10, Tryz.ntmps10
    go_wp2
    go_ret
    first | exact ⟨_, rfl, by omega, by omega, fun _ => hn2, rfl⟩ | exact ⟨_, rfl, by omega, by omega, rfl⟩ | exact ⟨_, rfl, by omega, rfl⟩
theorem infoLn : (Tryz.prog.info? 34).map (fun i => (i.zero, i.size, i.bytes)) = some (some (.agg #[.int .i64 0, .int .i64 0]), 2, 16) := by kernel_rfl
set_option maxRecDepth 100000 in
set_option maxHeartbeats 4000000 in
theorem toPointS_any (a : Option Addr) (cap : Nat) (L : List Ln) (w : World) (h : Rd w a L) (hl : L.length ≤ 1048576) :
    Calls Tryz.prog 16 #[.slice a L.length cap] w fun e w' => ∃ v, e = .returned v ∧ Own w' w.heap.size v L ∧ Below w.heap.size w w' := by
  generalize hn : L.length = n at *
  obtain ⟨i0, hi, hz0, hz1, hz2⟩ := info_parts infoLn
  have HR := hidIt h
  have HN := hidIt hn
  clear h hn
  go_enter Tryz.func16, Tryz.ntmps16
  go_wp2_with (first
    | (at_make; refine wpList_make_full _ rfl _ _ 33 rfl w.heap.size 34 i0 (.agg #[.int .i64 0, .int .i64 0]) 2 Tryz.underlying33 hi hz0 hz1 _ _ _ _ n rfl rfl (by omega) (by omega) (by rw [hz2]; omega) (by unfold maxLen; omega) (Nat.le_refl _) ?_)
    | fail)
  intro w1 hown hgrow
  have HO : Hid (Own w1 w.heap.size (.slice (some ⟨w.heap.size, 0, none⟩) n n) (List.replicate n (0, 0))) := by
    refine hidIt ?_
    unfold Own
    rw [List.length_replicate, lcells_zero]
    exact hown
  have HB := hidIt ((Below.refl w.heap.size w).grown hgrow (Nat.le_refl _) (fun k hk => by cases hk))
  clear hown hgrow
  go_wp2_with (fail)
  go_loopw [4] (fun y wx => ∃ (i : Nat) (M : List Ln), y = .int .i64 i ∧ i ≤ n ∧ M.length = n ∧ Hid (∀ j, j < i → lat M j = lat L j) ∧ Own wx w.heap.size (.slice (some ⟨w.heap.size, 0, none⟩) n n) M ∧ Below w.heap.size w wx) (fun y _ => (n - intOf y).toNat)
  case atStart => exact ⟨0, _, rfl, by omega, by simp, hidIt (fun j hj => by omega), HO.out, HB.out⟩
  case round =>
    obtain ⟨i, M, rfl, hin0, hM, hE, hO, hB⟩ := hrel
    have HRx := hidIt (HR.out.kept hB)
    have HBx := hidIt hB
    have HOx := hidIt hO
    have HM := hidIt hM
    clear hB hO HO HB hM
    by_cases hin : i < n
    · have hin' : (i : Int) < (n : Int) := by omega
      obtain ⟨b, off, rfl, c0, c1⟩ := HRx.out.cell i (by rw [HN.out]; exact hin)
      generalize hx : lat L i = x at c0 c1
      have HX := hidIt hx
      clear hx
      obtain ⟨s, q⟩ := x
      go_wp2_with (fail)
      refine (toPoint_any s q _).mono ?_
      rintro e w2 ⟨rfl, hb2⟩
      have HB2 := hidIt (HBx.out.trans (hb2.mono HBx.out.size))
      have HO2 := hidIt (HOx.out.kept hb2)
      have hiM : i < M.length := by rw [HM.out]; exact hin
      have HO3 := hidIt (HO2.out.line hiM s q)
      obtain ⟨c2, c3, f0, f1⟩ := HO2.out.at hiM
      clear hb2 HRx HBx HOx HO2
      have HMi := hidIt hiM
      clear hiM
      go_wp2_with (fail)
      refine ⟨⟨i + 1, _, by simp, by omega, by rw [List.length_set]; exact HM.out, hidIt (fun j hj => ?_), HO3.out, (HB2.out.setCell (by simp) _).setCell (by simp) _⟩, by simp [intOf]; omega⟩
      rw [lat_set HMi.out]
      split
      · next e => subst e; exact HX.out.symm
      · exact hE.out j (by omega)
    · have hin' : ¬ (i : Int) < (n : Int) := by omega
      have e : M = L := ext_lat (by rw [HM.out, HN.out]) (fun j hj => hE.out j (by rw [HM.out] at hj; omega))
      subst e
      go_wp2_with (fail)
      go_ret
      exact ⟨_, rfl, HOx.out, HBx.out⟩
theorem held4c {W wA : World} {b x y c u v : Nat} {a0 a1 a2 a3 : Value} (k : Below W.heap.size W wA) (h : W.cell? ⟨b, x, none⟩ = some a0 ∧ W.cell? ⟨b, y, none⟩ = some a1 ∧ W.cell? ⟨c, u, none⟩ = some a2 ∧ W.cell? ⟨c, v, none⟩ = some a3) : wA.cell? ⟨b, x, none⟩ = some a0 ∧ wA.cell? ⟨b, y, none⟩ = some a1 ∧ wA.cell? ⟨c, u, none⟩ = some a2 ∧ wA.cell? ⟨c, v, none⟩ = some a3 := by
  rw [k.cell (p := ⟨b, x, none⟩) (cell_block h.1), k.cell (p := ⟨b, y, none⟩) (cell_block h.1), k.cell (p := ⟨c, u, none⟩) (cell_block h.2.2.1), k.cell (p := ⟨c, v, none⟩) (cell_block h.2.2.1)]
  exact h
theorem held4c_drew {W wA : World} {b x y c u v : Nat} {a0 a1 a2 a3 : Value} (k : Below W.drew.heap.size W.drew wA) (h : W.cell? ⟨b, x, none⟩ = some a0 ∧ W.cell? ⟨b, y, none⟩ = some a1 ∧ W.cell? ⟨c, u, none⟩ = some a2 ∧ W.cell? ⟨c, v, none⟩ = some a3) : wA.cell? ⟨b, x, none⟩ = some a0 ∧ wA.cell? ⟨b, y, none⟩ = some a1 ∧ wA.cell? ⟨c, u, none⟩ = some a2 ∧ wA.cell? ⟨c, v, none⟩ = some a3 := held4c (W := W.drew) k h
set_option maxRecDepth 100000 in
set_option maxHeartbeats 4000000 in
theorem eqPointS_any (a b : Option Addr) (ca cb : Nat) (L : List Ln) (w : World) (ha : Rd w a L) (hb : Rd w b L) (hl : L.length ≤ 9223372036854775806) :
    Calls Tryz.prog 21 #[.slice a L.length ca, .slice b L.length cb] w fun e w' => e = .returned (.bool true) ∧ Below w.heap.size w w' := by
  generalize hn : L.length = n at *
  have HA := hidIt ha
  have HB := hidIt hb
  have HN := hidIt hn
  clear ha hb hn
  have hnn : ((n : Int) != (n : Int)) = false := by simp
  go_enter Tryz.func21, Tryz.ntmps21
  go_wp2_with (fail)
  go_loopw [5] (fun y wx => ∃ i : Nat, y = .int .i64 i ∧ i ≤ n ∧ Below w.heap.size w wx) (fun y _ => (n - intOf y).toNat)
  case atStart => exact ⟨0, rfl, by omega, Below.refl _ _⟩
  case round =>
    obtain ⟨i, rfl, hi, hB⟩ := hrel
    have RA := hidIt (HA.out.kept hB)
    have RB := hidIt (HB.out.kept hB)
    have KX := hidIt hB
    clear hB
    by_cases hin : i < n
    · have hin' : (i : Int) < (n : Int) := by omega
      obtain ⟨b1, o1, rfl, c0, c1⟩ := RA.out.cell i (by rw [HN.out]; omega)
      obtain ⟨b2, o2, rfl, d0, d1⟩ := RB.out.cell i (by rw [HN.out]; omega)
      generalize lat L i = x at c0 c1 d0 d1
      obtain ⟨s, q⟩ := x
      have hf := And.intro c0 (And.intro c1 (And.intro d0 d1))
      clear RA RB HA HB
      go_wp2_with (fail)
      go_region_held3 (fun w' => w'.cell? ⟨b1, o1 + i * 2, none⟩ = some (.int .i64 s) ∧ w'.cell? ⟨b1, o1 + i * 2 + 1, none⟩ = some (.int .i64 q) ∧ w'.cell? ⟨b2, o2 + i * 2, none⟩ = some (.int .i64 s) ∧ w'.cell? ⟨b2, o2 + i * 2 + 1, none⟩ = some (.int .i64 q))
        (first | assumption | (with_reducible exact held4c_drew hbB hf) | go_keep)
        (first | (go_at_call 34; refine (eqPoint_same s q _).mono ?_; rintro e wB ⟨rfl, hbB⟩))
      have hBB : Hid (Below w.heap.size w wB) := hidIt (KX.out.drew.trans (hbB.mono (by have := KX.out.size; simpa using this)))
      clear hbB hf
      go_wp2_with (fail)
      exact ⟨⟨i + 1, by simp, by omega, hBB.out⟩, by simp [intOf]; omega⟩
    · have hin' : ¬ (i : Int) < (n : Int) := by omega
      go_wp2_with (fail)
      go_ret
      exact ⟨rfl, KX.out⟩
end Go.Proofs.YtmdlgogpgedgnaaGreatDoor.Pt
namespace Go.Proofs.YtmdlgogpgedgnaaGreatDoor.Dd
open Go.ChangeShapes Go.WideShapes Go.ChangeAt Go.RowKit
open Cv Cu Sg
open Go.Proofs.YtmdlgogpgedgnaaGreatDoor.Bo (Box Box.new Box.newAt Box.kept Box.alloc Box.put Box.other Box.c Box.drew)
set_option linter.unusedVariables false
set_option maxRecDepth 100000 in
set_option maxHeartbeats 4000000 in
theorem toSeal_any (k1 k2 u r1 r2 t : Int) (w : World) : Calls Tryz.prog 7 #[sv k1 k2 u r1 r2 t] w fun e w' => e = .returned (sv k1 k2 u r1 r2 t) ∧ Below w.heap.size w w' := by
  have BA := hidIt ((((Box.new w (sc k1 k2 u r1 r2 t) 28).alloc (.cells (sc 0 0 0 0 0 0) 38)).alloc (.cells (sc 0 0 0 0 0 0) 38)))
  have BB : Hid (Box (((w.alloc (.cells (sc k1 k2 u r1 r2 t) 28)).alloc (.cells (sc 0 0 0 0 0 0) 38)).alloc (.cells (sc 0 0 0 0 0 0) 38)) (w.heap.size + 1) (sc 0 0 0 0 0 0)) := hidIt ((Box.newAt (by simp)).alloc _)
  have BC : Hid (Box (((w.alloc (.cells (sc k1 k2 u r1 r2 t) 28)).alloc (.cells (sc 0 0 0 0 0 0) 38)).alloc (.cells (sc 0 0 0 0 0 0) 38)) (w.heap.size + 1 + 1) (sc 0 0 0 0 0 0)) := hidIt (Box.newAt (by simp))
  have HB : Hid (Below w.heap.size w (((w.alloc (.cells (sc k1 k2 u r1 r2 t) 28)).alloc (.cells (sc 0 0 0 0 0 0) 38)).alloc (.cells (sc 0 0 0 0 0 0) 38))) := hidIt ((((Below.refl w.heap.size w).alloc (Nat.le_refl _) _).alloc (by simp) _).alloc (by simp; omega) _)
  go_enter Tryz.func7, Tryz.ntmps7
  go_wp2_with (fail)
  refine (toPoint_any _ _ _).mono ?_
  rintro e w1 ⟨rfl, k⟩
  replace BA := hidIt (BA.out.kept k)
  replace BB := hidIt (BB.out.kept k)
  replace BC := hidIt (BC.out.kept k)
  replace HB := hidIt (HB.out.trans (k.mono HB.out.size))
  clear k
  have ne1 : w.heap.size ≠ w.heap.size + 1 + 1 := by omega
  have ne2 : w.heap.size + 1 ≠ w.heap.size + 1 + 1 := by omega
  have ne3 : w.heap.size + 1 + 1 ≠ w.heap.size := by omega
  have ne4 : w.heap.size + 1 + 1 ≠ w.heap.size + 1 := by omega
  have hle : w.heap.size ≤ w.heap.size + 1 + 1 := by omega
  have hle1 : w.heap.size ≤ w.heap.size + 1 := by omega
  generalize w.heap.size + 1 + 1 = n2 at *
  generalize w.heap.size + 1 = n1 at *
  have a2 := BA.out.c 2 rfl
  have a3 := BA.out.c 3 rfl
  have a4 := BA.out.c 4 rfl
  have a5 := BA.out.c 5 rfl
  have c0 := BC.out.c 0 rfl
  have c1 := BC.out.c 1 rfl
  have c2 := BC.out.c 2 rfl
  have f0 := BC.out.fr 0
  have f1 := BC.out.fr 1
  have f2 := BC.out.fr 2
  go_wp2_with (fail)
  refine (toSig_any _ _ _ _).mono ?_
  rintro e w2 ⟨rfl, k⟩
  replace BC : Hid (Box w2 n2 (sc k1 k2 u 0 0 0)) := hidIt ((((BC.out.put (c' := sc k1 0 0 0 0 0) 0 (.int .i64 k1) (by simp) rfl).put (c' := sc k1 k2 0 0 0 0) 1 (.int .i64 k2) (by simp) rfl).put 2 (.int .i64 u) (by simp) rfl).kept k)
  replace BB := hidIt ((((BB.out.other (v := .int .i64 k1) (i := 0) ne4).other (v := .int .i64 k2) (i := 1) ne4).other (v := .int .i64 u) (i := 2) ne4).kept k)
  replace HB := hidIt ((((HB.out.setCell (p := ⟨n2, 0, none⟩) hle (.int .i64 k1)).setCell (p := ⟨n2, 1, none⟩) hle (.int .i64 k2)).setCell (p := ⟨n2, 2, none⟩) hle (.int .i64 u)).trans (k.mono (by simpa using HB.out.size)))
  clear k a2 a3 a4 a5 c0 c1 c2 f0 f1 f2 BA
  have c0 := BC.out.c 0 rfl
  have c1 := BC.out.c 1 rfl
  have c2 := BC.out.c 2 rfl
  have c3 := BC.out.c 3 rfl
  have c4 := BC.out.c 4 rfl
  have c5 := BC.out.c 5 rfl
  have f3 := BC.out.fr 3
  have f4 := BC.out.fr 4
  have f5 := BC.out.fr 5
  have b0 := BB.out.c 0 rfl
  have b1 := BB.out.c 1 rfl
  have b2 := BB.out.c 2 rfl
  have b3 := BB.out.c 3 rfl
  have b4 := BB.out.c 4 rfl
  have b5 := BB.out.c 5 rfl
  have d0 := BB.out.fr 0
  have d1 := BB.out.fr 1
  have d2 := BB.out.fr 2
  have d3 := BB.out.fr 3
  have d4 := BB.out.fr 4
  have d5 := BB.out.fr 5
  go_wp2_with (fail)
  have BZ := ((((((((BB.out.other (v := .int .i64 r1) (i := 3) ne4).other (v := .int .i64 r2) (i := 4) ne4).other (v := .int .i64 t) (i := 5) ne4).put (c' := sc k1 0 0 0 0 0) 0 (.int .i64 k1) (by simp) rfl).put (c' := sc k1 k2 0 0 0 0) 1 (.int .i64 k2) (by simp) rfl).put (c' := sc k1 k2 u 0 0 0) 2 (.int .i64 u) (by simp) rfl).put (c' := sc k1 k2 u r1 0 0) 3 (.int .i64 r1) (by simp) rfl).put (c' := sc k1 k2 u r1 r2 0) 4 (.int .i64 r2) (by simp) rfl).put (c' := sc k1 k2 u r1 r2 t) 5 (.int .i64 t) (by simp) rfl
  refine bodyPost_ret (v := sv k1 k2 u r1 r2 t) ?_ rfl ⟨rfl, ?_⟩
  · refine ret_box BZ (fun w9 j => ?_)
    have j0 := j.c 0 rfl
    have j1 := j.c 1 rfl
    have j2 := j.c 2 rfl
    have j3 := j.c 3 rfl
    have j4 := j.c 4 rfl
    have j5 := j.c 5 rfl
    clear BZ c0 c1 c2 c3 c4 c5 b0 b1 b2 b3 b4 b5 d0 d1 d2 d3 d4 d5 f3 f4 f5
    simp [results, Tryz.results7, go_sem, j0, j1, j2, j3, j4, j5]
  · exact (((((((((HB.out.setCell (p := ⟨n2, 3, none⟩) hle _).setCell (p := ⟨n2, 4, none⟩) hle _).setCell (p := ⟨n2, 5, none⟩) hle _).setCell (p := ⟨n1, 0, none⟩) hle1 _).setCell (p := ⟨n1, 1, none⟩) hle1 _).setCell (p := ⟨n1, 2, none⟩) hle1 _).setCell (p := ⟨n1, 3, none⟩) hle1 _).setCell (p := ⟨n1, 4, none⟩) hle1 _).setCell (p := ⟨n1, 5, none⟩) hle1 _)
set_option maxRecDepth 100000 in
set_option maxHeartbeats 4000000 in
theorem eqSeal_same (k1 k2 u r1 r2 t : Int) (w : World) : Calls Tryz.prog 22 #[sv k1 k2 u r1 r2 t, sv k1 k2 u r1 r2 t] w fun e w' => e = .returned (.bool true) ∧ Below w.heap.size w w' := by
  have BA := hidIt ((Box.new w (sc k1 k2 u r1 r2 t) 38).alloc (.cells (sc k1 k2 u r1 r2 t) 38))
  have BB : Hid (Box ((w.alloc (.cells (sc k1 k2 u r1 r2 t) 38)).alloc (.cells (sc k1 k2 u r1 r2 t) 38)) (w.heap.size + 1) (sc k1 k2 u r1 r2 t)) := hidIt (Box.newAt (by simp))
  have HB : Hid (Below w.heap.size w ((w.alloc (.cells (sc k1 k2 u r1 r2 t) 38)).alloc (.cells (sc k1 k2 u r1 r2 t) 38))) := hidIt (((Below.refl w.heap.size w).alloc (Nat.le_refl _) _).alloc (by simp) _)
  have hu : (u != u) = false := by simp
  go_enter Tryz.func22, Tryz.ntmps22
  go_wp2_with (fail)
  refine (eqPoint_same _ _ _).mono ?_
  rintro e w1 ⟨rfl, k⟩
  replace BA := hidIt (BA.out.kept k)
  replace BB := hidIt (BB.out.kept k)
  replace HB := hidIt (HB.out.trans (k.mono HB.out.size))
  clear k
  generalize w.heap.size + 1 = n1 at *
  have a2 := BA.out.c 2 rfl
  have a3 := BA.out.c 3 rfl
  have a4 := BA.out.c 4 rfl
  have a5 := BA.out.c 5 rfl
  have b2 := BB.out.c 2 rfl
  have b3 := BB.out.c 3 rfl
  have b4 := BB.out.c 4 rfl
  have b5 := BB.out.c 5 rfl
  go_wp2_with (fail)
  refine (eqSig_same _ _ _ _).mono ?_
  rintro e w2 ⟨rfl, k⟩
  replace HB := hidIt (HB.out.trans (k.mono HB.out.size))
  clear k a2 a3 a4 a5 b2 b3 b4 b5 BA BB
  go_wp2_with (fail)
  go_ret
  exact ⟨rfl, HB.out⟩
end Go.Proofs.YtmdlgogpgedgnaaGreatDoor.Dd
namespace Go.Proofs.YtmdlgogpgedgnaaGreatDoor.Dd
open Go.ChangeShapes Go.WideShapes Go.ChangeAt Go.RowKit
open Cv Cu Sg
open Go.Proofs.YtmdlgogpgedgnaaGreatDoor.Pt (Ln lat szPointS_any toPointS_any eqPointS_any)
open Go.Proofs.YtmdlgogpgedgnaaGreatDoor.Bo (Box Box.new Box.newAt Box.kept Box.alloc Box.put Box.other Box.c Box.drew)
set_option linter.unusedVariables false
set_option maxRecDepth 100000 in
set_option maxHeartbeats 2000000 in
theorem szDeed_any (z : ByteArray) (a : Option Addr) (n cap : Nat) (k1 k2 u r1 r2 t : Int) (l : Int) (w : World) (hz : z.size ≤ 9223372036854775807) (hl : n ≤ 9223372036854775807) (h0 : 0 ≤ l) (h1 : l ≤ 1048576) :
    Calls Tryz.prog 4 #[dv z (.slice a n cap) k1 k2 u r1 r2 t, .int .i64 l] w fun e w' => ∃ r : Int, e = .returned (.int .i64 r) ∧ r ≤ l ∧ -1 ≤ r ∧ (0 ≤ r → n ≤ 1048576) ∧ Below w.heap.size w w' := by
  have g1 : -9223372036854775808 ≤ l - (z.size : Int) := by omega
  have g2 : l - (z.size : Int) ≤ 9223372036854775807 := by omega
  have HB := hidIt ((Below.refl w.heap.size w).alloc (Nat.le_refl _) (.cells (dc z (.slice a n cap) k1 k2 u r1 r2 t) 30))
  by_cases hn1 : l - (z.size : Int) < 0
  · go_enter Tryz.func4, Tryz.ntmps4
    go_wp2
    go_ret
    exact ⟨-1, rfl, by omega, by omega, fun h => by omega, HB.out⟩
  · generalize e1 : l - (z.size : Int) = m at g1 g2 hn1
    have CZ := hidIt (fun W => szPointS_any a cap n m W hl (by omega) (by omega))
    go_enter Tryz.func4, Tryz.ntmps4
    go_wp2_with (fail)
    refine (CZ.out _).mono ?_
    rintro e w1 ⟨r, rfl, hr1, hr0, hr2, rfl⟩
    have HR2 := hidIt hr2
    clear hr2
    by_cases hneg : r < 0
    · go_wp2_with (fail)
      go_ret
      exact ⟨-1, rfl, by omega, by omega, fun h => by omega, HB.out⟩
    · go_wp2_with (fail)
      go_ret
      exact ⟨r, rfl, by omega, by omega, HR2.out, HB.out⟩
set_option maxRecDepth 100000 in
set_option maxHeartbeats 4000000 in
theorem toDeed_any (z : ByteArray) (a : Option Addr) (cap : Nat) (L : List Ln) (k1 k2 u r1 r2 t : Int) (w : World) (h : Pt.Rd w a L) (hl : L.length ≤ 1048576) :
    Calls Tryz.prog 6 #[dv z (.slice a L.length cap) k1 k2 u r1 r2 t] w fun e w' => ∃ x cp, e = .returned (dv z (.slice x L.length cp) k1 k2 u r1 r2 t) ∧ Pt.Own w' w.heap.size (.slice x L.length cp) L ∧ Below w.heap.size w w' := by
  have CT := hidIt (fun W hW => toPointS_any a cap L W hW hl)
  have CS := hidIt (fun W => toSeal_any k1 k2 u r1 r2 t W)
  have HR := hidIt h
  clear h
  have BA : Hid (Box (((w.alloc (.cells (dc z (.slice a L.length cap) k1 k2 u r1 r2 t) 30)).alloc (.cells (dc ⟨#[]⟩ (.slice none 0 0) 0 0 0 0 0 0) 40)).alloc (.cells (dc z (.slice none 0 0) 0 0 0 0 0 0) 40)) w.heap.size (dc z (.slice a L.length cap) k1 k2 u r1 r2 t)) := hidIt (((Box.new w _ _).alloc _).alloc _)
  have BB : Hid (Box (((w.alloc (.cells (dc z (.slice a L.length cap) k1 k2 u r1 r2 t) 30)).alloc (.cells (dc ⟨#[]⟩ (.slice none 0 0) 0 0 0 0 0 0) 40)).alloc (.cells (dc z (.slice none 0 0) 0 0 0 0 0 0) 40)) (w.heap.size + 1) (dc ⟨#[]⟩ (.slice none 0 0) 0 0 0 0 0 0)) := hidIt ((Box.newAt (by simp)).alloc _)
  have BC : Hid (Box (((w.alloc (.cells (dc z (.slice a L.length cap) k1 k2 u r1 r2 t) 30)).alloc (.cells (dc ⟨#[]⟩ (.slice none 0 0) 0 0 0 0 0 0) 40)).alloc (.cells (dc z (.slice none 0 0) 0 0 0 0 0 0) 40)) (w.heap.size + 1 + 1) (dc z (.slice none 0 0) 0 0 0 0 0 0)) := hidIt (Box.newAt (by simp))
  have HB : Hid (Below w.heap.size w (((w.alloc (.cells (dc z (.slice a L.length cap) k1 k2 u r1 r2 t) 30)).alloc (.cells (dc ⟨#[]⟩ (.slice none 0 0) 0 0 0 0 0 0) 40)).alloc (.cells (dc z (.slice none 0 0) 0 0 0 0 0 0) 40))) := hidIt ((((Below.refl w.heap.size w).alloc (Nat.le_refl _) _).alloc (by simp) _).alloc (by simp; omega) _)
  go_enter Tryz.func6, Tryz.ntmps6
  go_wp2_with (fail)
  refine (CT.out _ (HR.out.kept HB.out)).mono ?_
  rintro e w1 ⟨v1, rfl, hO1, k⟩
  obtain ⟨x1, cp1, rfl, f1', m1, R1, hna, hsome⟩ := hO1.form
  have ne1 : w.heap.size ≠ w.heap.size + 1 + 1 := by omega
  have ne2 : w.heap.size + 1 ≠ w.heap.size + 1 + 1 := by omega
  have ne3 : w.heap.size + 1 + 1 ≠ w.heap.size := by omega
  have ne4 : w.heap.size + 1 + 1 ≠ w.heap.size + 1 := by omega
  have hle : w.heap.size ≤ w.heap.size + 1 + 1 := by omega
  have hle1 : w.heap.size ≤ w.heap.size + 1 := by omega
  replace BA := hidIt (BA.out.kept k)
  replace BB := hidIt (BB.out.kept k)
  replace BC := hidIt (BC.out.kept k)
  replace HB := hidIt (HB.out.trans (k.mono HB.out.size))
  have HO1 : Hid (Pt.Own w1 (w.heap.size + 1 + 1 + 1) (.slice x1 L.length cp1) L) := hidIt (hO1.mono (by simp))
  have lt1 : ∀ q, (Value.slice x1 L.length cp1).ownBlock = some q → w.heap.size + 1 + 1 < q ∧ w.heap.size + 1 < q := fun q hq => by have := (World.ownsRow.lt HO1.out q hq).1; omega
  have hn3 : w.heap.size ≤ w.heap.size + 1 + 1 + 1 := by omega
  clear hO1 R1 hna hsome k HR CT f1' m1
  generalize w.heap.size + 1 + 1 + 1 = n3 at *
  generalize w.heap.size + 1 + 1 = n2 at *
  generalize w.heap.size + 1 = n1 at *
  have a2 := BA.out.c 2 (v := .int .i64 k1) rfl
  have a3 := BA.out.c 3 (v := .int .i64 k2) rfl
  have a4 := BA.out.c 4 (v := .int .i64 u) rfl
  have a5 := BA.out.c 5 (v := .int .i64 r1) rfl
  have a6 := BA.out.c 6 (v := .int .i64 r2) rfl
  have a7 := BA.out.c 7 (v := .int .i64 t) rfl
  have c1 := BC.out.c 1 (v := .slice none 0 0) rfl
  have f1 := BC.out.fr 1
  go_wp2_with (fail)
  refine (CS.out _).mono ?_
  rintro e w2 ⟨rfl, k⟩
  replace BC := hidIt ((BC.out.put (c' := #[.string z, .slice x1 L.length cp1, .int .i64 0, .int .i64 0, .int .i64 0, .int .i64 0, .int .i64 0, .int .i64 0]) 1 (.slice x1 L.length cp1) (by simp) rfl).kept k)
  replace BB := hidIt ((BB.out.other (v := .slice x1 L.length cp1) (i := 1) ne4).kept k)
  replace HB := hidIt ((HB.out.setCell (p := ⟨n2, 1, none⟩) hle (.slice x1 L.length cp1)).trans (k.mono (by simpa using HB.out.size)))
  replace HO1 := hidIt (Pt.Own.kept (Pt.Own.only (c := n2) HO1.out ((Only.refl _ _).setCell 1 (.slice x1 L.length cp1)) (.inr fun q hq e => by have := (lt1 q hq).1; omega)) k)
  clear k a2 a3 a4 a5 a6 a7 c1 f1 BA
  have c0 := BC.out.c 0 (v := .string z) rfl
  have c1 := BC.out.c 1 (v := .slice x1 L.length cp1) rfl
  have c2 := BC.out.c 2 (v := .int .i64 0) rfl
  have c3 := BC.out.c 3 (v := .int .i64 0) rfl
  have c4 := BC.out.c 4 (v := .int .i64 0) rfl
  have c5 := BC.out.c 5 (v := .int .i64 0) rfl
  have c6 := BC.out.c 6 (v := .int .i64 0) rfl
  have c7 := BC.out.c 7 (v := .int .i64 0) rfl
  have f2 := BC.out.fr 2
  have f3 := BC.out.fr 3
  have f4 := BC.out.fr 4
  have f5 := BC.out.fr 5
  have f6 := BC.out.fr 6
  have f7 := BC.out.fr 7
  have b0 := BB.out.c 0 (v := .string ⟨#[]⟩) rfl
  have b1 := BB.out.c 1 (v := .slice none 0 0) rfl
  have b2 := BB.out.c 2 (v := .int .i64 0) rfl
  have b3 := BB.out.c 3 (v := .int .i64 0) rfl
  have b4 := BB.out.c 4 (v := .int .i64 0) rfl
  have b5 := BB.out.c 5 (v := .int .i64 0) rfl
  have b6 := BB.out.c 6 (v := .int .i64 0) rfl
  have b7 := BB.out.c 7 (v := .int .i64 0) rfl
  have d0 := BB.out.fr 0
  have d1 := BB.out.fr 1
  have d2 := BB.out.fr 2
  have d3 := BB.out.fr 3
  have d4 := BB.out.fr 4
  have d5 := BB.out.fr 5
  have d6 := BB.out.fr 6
  have d7 := BB.out.fr 7
  go_wp2_with (fail)
  have BZ := ((((((((((((((BB.out.other (v := .int .i64 k1) (i := 2) ne4).other (v := .int .i64 k2) (i := 3) ne4).other (v := .int .i64 u) (i := 4) ne4).other (v := .int .i64 r1) (i := 5) ne4).other (v := .int .i64 r2) (i := 6) ne4).other (v := .int .i64 t) (i := 7) ne4).put (c' := #[.string z, .slice none 0 0, .int .i64 0, .int .i64 0, .int .i64 0, .int .i64 0, .int .i64 0, .int .i64 0]) 0 (.string z) (by simp) rfl).put (c' := #[.string z, .slice x1 L.length cp1, .int .i64 0, .int .i64 0, .int .i64 0, .int .i64 0, .int .i64 0, .int .i64 0]) 1 (.slice x1 L.length cp1) (by simp) rfl).put (c' := #[.string z, .slice x1 L.length cp1, .int .i64 k1, .int .i64 0, .int .i64 0, .int .i64 0, .int .i64 0, .int .i64 0]) 2 (.int .i64 k1) (by simp) rfl).put (c' := #[.string z, .slice x1 L.length cp1, .int .i64 k1, .int .i64 k2, .int .i64 0, .int .i64 0, .int .i64 0, .int .i64 0]) 3 (.int .i64 k2) (by simp) rfl).put (c' := #[.string z, .slice x1 L.length cp1, .int .i64 k1, .int .i64 k2, .int .i64 u, .int .i64 0, .int .i64 0, .int .i64 0]) 4 (.int .i64 u) (by simp) rfl).put (c' := #[.string z, .slice x1 L.length cp1, .int .i64 k1, .int .i64 k2, .int .i64 u, .int .i64 r1, .int .i64 0, .int .i64 0]) 5 (.int .i64 r1) (by simp) rfl).put (c' := #[.string z, .slice x1 L.length cp1, .int .i64 k1, .int .i64 k2, .int .i64 u, .int .i64 r1, .int .i64 r2, .int .i64 0]) 6 (.int .i64 r2) (by simp) rfl).put (c' := #[.string z, .slice x1 L.length cp1, .int .i64 k1, .int .i64 k2, .int .i64 u, .int .i64 r1, .int .i64 r2, .int .i64 t]) 7 (.int .i64 t) (by simp) rfl)
  refine bodyPost_ret (v := dv z (.slice x1 L.length cp1) k1 k2 u r1 r2 t) ?_ rfl ⟨x1, cp1, rfl, ?_, ?_⟩
  · refine ret_box BZ (fun w9 j => ?_)
    have j0 := j.c 0 (v := .string z) rfl
    have j1 := j.c 1 (v := .slice x1 L.length cp1) rfl
    have j2 := j.c 2 (v := .int .i64 k1) rfl
    have j3 := j.c 3 (v := .int .i64 k2) rfl
    have j4 := j.c 4 (v := .int .i64 u) rfl
    have j5 := j.c 5 (v := .int .i64 r1) rfl
    have j6 := j.c 6 (v := .int .i64 r2) rfl
    have j7 := j.c 7 (v := .int .i64 t) rfl
    clear BZ c0 c1 c2 c3 c4 c5 c6 c7 f2 f3 f4 f5 f6 f7 b0 b1 b2 b3 b4 b5 b6 b7 d0 d1 d2 d3 d4 d5 d6 d7
    simp [results, Tryz.results6, go_sem, j0, j1, j2, j3, j4, j5, j6, j7]
  · exact Pt.Own.only (c := n1) (Pt.Own.only (c := n2) (HO1.out.mono hn3) (((((((Only.refl _ _).setCell 2 (.int .i64 k1)).setCell 3 (.int .i64 k2)).setCell 4 (.int .i64 u)).setCell 5 (.int .i64 r1)).setCell 6 (.int .i64 r2)).setCell 7 (.int .i64 t)) (.inr fun q hq e => by have := (lt1 q hq).1; omega)) (((((((((Only.refl _ _).setCell 0 (.string z)).setCell 1 (.slice x1 L.length cp1)).setCell 2 (.int .i64 k1)).setCell 3 (.int .i64 k2)).setCell 4 (.int .i64 u)).setCell 5 (.int .i64 r1)).setCell 6 (.int .i64 r2)).setCell 7 (.int .i64 t)) (.inr fun q hq e => by have := (lt1 q hq).2; omega)
  · exact ((((((((((((((HB.out.setCell (p := ⟨n2, 2, none⟩) hle (.int .i64 k1)).setCell (p := ⟨n2, 3, none⟩) hle (.int .i64 k2)).setCell (p := ⟨n2, 4, none⟩) hle (.int .i64 u)).setCell (p := ⟨n2, 5, none⟩) hle (.int .i64 r1)).setCell (p := ⟨n2, 6, none⟩) hle (.int .i64 r2)).setCell (p := ⟨n2, 7, none⟩) hle (.int .i64 t)).setCell (p := ⟨n1, 0, none⟩) hle1 (.string z)).setCell (p := ⟨n1, 1, none⟩) hle1 (.slice x1 L.length cp1)).setCell (p := ⟨n1, 2, none⟩) hle1 (.int .i64 k1)).setCell (p := ⟨n1, 3, none⟩) hle1 (.int .i64 k2)).setCell (p := ⟨n1, 4, none⟩) hle1 (.int .i64 u)).setCell (p := ⟨n1, 5, none⟩) hle1 (.int .i64 r1)).setCell (p := ⟨n1, 6, none⟩) hle1 (.int .i64 r2)).setCell (p := ⟨n1, 7, none⟩) hle1 (.int .i64 t))
set_option maxRecDepth 100000 in
set_option maxHeartbeats 4000000 in
theorem eqDeed_same (z : ByteArray) (a b : Option Addr) (ca cb : Nat) (L : List Ln) (k1 k2 u r1 r2 t : Int) (w : World) (ha : Pt.Rd w a L) (hb : Pt.Rd w b L) (hl : L.length ≤ 9223372036854775806) :
    Calls Tryz.prog 9 #[dv z (.slice a L.length ca) k1 k2 u r1 r2 t, dv z (.slice b L.length cb) k1 k2 u r1 r2 t] w fun e w' => e = .returned (.bool true) ∧ Below w.heap.size w w' := by
  have CE := hidIt (fun W h h' => eqPointS_any a b ca cb L W h h' hl)
  have CS := hidIt (fun W => eqSeal_same k1 k2 u r1 r2 t W)
  have HA := hidIt ha
  have HC := hidIt hb
  clear ha hb
  generalize L.length = n at *
  have BA : Hid (Box ((w.alloc (.cells (dc z (.slice a n ca) k1 k2 u r1 r2 t) 40)).alloc (.cells (dc z (.slice b n cb) k1 k2 u r1 r2 t) 40)) w.heap.size (dc z (.slice a n ca) k1 k2 u r1 r2 t)) := hidIt ((Box.new w _ _).alloc _)
  have BB : Hid (Box ((w.alloc (.cells (dc z (.slice a n ca) k1 k2 u r1 r2 t) 40)).alloc (.cells (dc z (.slice b n cb) k1 k2 u r1 r2 t) 40)) (w.heap.size + 1) (dc z (.slice b n cb) k1 k2 u r1 r2 t)) := hidIt (Box.newAt (by simp))
  have HB : Hid (Below w.heap.size w ((w.alloc (.cells (dc z (.slice a n ca) k1 k2 u r1 r2 t) 40)).alloc (.cells (dc z (.slice b n cb) k1 k2 u r1 r2 t) 40))) := hidIt (((Below.refl w.heap.size w).alloc (Nat.le_refl _) _).alloc (by simp) _)
  go_enter Tryz.func9, Tryz.ntmps9
  go_wp2_with (fail)
  refine (CE.out _ (HA.out.kept HB.out) (HC.out.kept HB.out)).mono ?_
  rintro e w1 ⟨rfl, k⟩
  replace BA := hidIt (BA.out.kept k)
  replace BB := hidIt (BB.out.kept k)
  replace HB := hidIt (HB.out.trans (k.mono HB.out.size))
  clear k CE HA HC
  generalize w.heap.size + 1 = n1 at *
  have a2 := BA.out.c 2 (v := .int .i64 k1) rfl
  have b2 := BB.out.c 2 (v := .int .i64 k1) rfl
  have a3 := BA.out.c 3 (v := .int .i64 k2) rfl
  have b3 := BB.out.c 3 (v := .int .i64 k2) rfl
  have a4 := BA.out.c 4 (v := .int .i64 u) rfl
  have b4 := BB.out.c 4 (v := .int .i64 u) rfl
  have a5 := BA.out.c 5 (v := .int .i64 r1) rfl
  have b5 := BB.out.c 5 (v := .int .i64 r1) rfl
  have a6 := BA.out.c 6 (v := .int .i64 r2) rfl
  have b6 := BB.out.c 6 (v := .int .i64 r2) rfl
  have a7 := BA.out.c 7 (v := .int .i64 t) rfl
  have b7 := BB.out.c 7 (v := .int .i64 t) rfl
  go_wp2_with (fail)
  refine (CS.out _).mono ?_
  rintro e w2 ⟨rfl, k⟩
  replace HB := hidIt (HB.out.trans (k.mono HB.out.size))
  clear k a2 a3 a4 a5 a6 a7 b2 b3 b4 b5 b6 b7 BA BB
  go_wp2_with (fail)
  go_ret
  exact ⟨rfl, HB.out⟩
end Go.Proofs.YtmdlgogpgedgnaaGreatDoor.Dd
namespace Go.Proofs.YtmdlgogpgedgnaaGreatDoor.Pt
open Go.ChangeShapes Go.WideShapes Go.ChangeAt Go.RowKit
set_option linter.unusedVariables false
theorem lat_map (n : Nat) (f : Nat → Ln) (i : Nat) (hi : i < n) : lat ((List.range n).map f) i = f i := by
  unfold lat
  rw [List.getD_eq_getElem?_getD, List.getElem?_map, List.getElem?_range hi]
  rfl
set_option maxRecDepth 100000 in
theorem cellsLn : Tryz.prog.cellsOf 24 = 2 := by kernel_rfl
set_option maxRecDepth 100000 in
theorem cellsSm : Tryz.prog.cellsOf 2 = 1 := by kernel_rfl
set_option maxRecDepth 100000 in
theorem open_points_in {H : Type} {enc : TypeId × Value → H} {w : World} {base : Nat} {spare : Nat → Bool} {held : Bool} {fuel : Nat} {v : Value} {y : DataW H × List MemPlace} (hf : DataW.trod enc Tryz.prog w base spare held fuel 22 [v] = some y) :
    ∃ (a : Option Addr) (cap : Nat) (L : List Ln), v = .slice a L.length cap ∧ In w a cap L := by
  rcases Go.Deep.open_slice_pairs Tryz.underlying22 Tryz.underlying24 cellsLn rfl rfl cellsSm cellsSm hf with ⟨hcs, _⟩ | ⟨x, l, c, m, n, V0, V1, D0, D1, P0, P1, hcs, _, hl, hc, hm, _, hall⟩
  · simp at hcs
    subst hcs
    exact ⟨none, 0, [], rfl, Rd.nil _ _, Nat.zero_le _, by decide⟩
  · simp at hcs
    subst hcs
    have hlm : l ≤ m := by rw [hm]; split <;> omega
    have each : ∀ i, i < l → ∃ y : Ln, V0 i = .int .i64 y.1 ∧ V1 i = .int .i64 y.2 := by
      intro i hi
      obtain ⟨_, _, t0, t1⟩ := hall i (by omega)
      obtain ⟨s, e0, _, _⟩ := DataW.trod_int Tryz.underlying2 t0
      obtain ⟨q, e1, _, _⟩ := DataW.trod_int Tryz.underlying2 t1
      exact ⟨(s, q), by simpa using e0, by simpa using e1⟩
    haveI : Inhabited Ln := ⟨(0, 0)⟩
    obtain ⟨f, hf'⟩ := Go.Deep.choose_lt each
    refine ⟨some x, c, (List.range l).map f, by simp, ⟨fun i hi => ?_⟩, by simpa using hl, hc⟩
    have hi' : i < l := by simpa using hi
    obtain ⟨k0, k1, _, _⟩ := hall i (by omega)
    obtain ⟨e0, e1⟩ := hf' i hi'
    have z0 := (hall 0 (by omega)).1
    obtain ⟨b, off, spot⟩ := x
    have hspot : spot = none := by simpa [Addr.add] using World.cell?_spot z0
    subst hspot
    refine ⟨b, off, rfl, ?_, ?_⟩
    · rw [lat_map _ _ _ hi', ← e0, ← Go.WideShapes.add_plain]; exact k0
    · rw [lat_map _ _ _ hi', ← e1, Nat.add_assoc, ← Go.WideShapes.add_plain]; exact k1
set_option maxRecDepth 100000 in
theorem open_points {H : Type} {enc : TypeId × Value → H} {w : World} {r : Reach} {b0 base : Nat} {spare : Nat → Bool} {held : Bool} {v : Value} {d : DataW H} {p : List MemPlace} (hv : Value.okWide Tryz.prog w r b0 22 v) (h : DataW.Trod enc Tryz.prog w base spare held 22 v d p) :
    ∃ (a : Option Addr) (cap : Nat) (L : List Ln), v = .slice a L.length cap ∧ In w a cap L := by
  obtain ⟨a, len, cap, rfl⟩ := okWide_slice Tryz.underlying22 hv
  obtain ⟨fuel, hf⟩ := h
  exact open_points_in hf
end Go.Proofs.YtmdlgogpgedgnaaGreatDoor.Pt
namespace Go.Proofs.YtmdlgogpgedgnaaGreatDoor.Dd
open Go.ChangeShapes Go.WideShapes Go.ChangeAt Go.RowKit
open Go.Proofs.YtmdlgogpgedgnaaGreatDoor.Pt (Ln)
set_option linter.unusedVariables false
theorem array6 {cs : Array Value} (h : cs.size = 6) : ∃ a b c d e f, cs = #[a, b, c, d, e, f] := by
  obtain ⟨l⟩ := cs
  match l, h with
  | [a, b, c, d, e, f], _ => exact ⟨a, b, c, d, e, f, rfl⟩
theorem array8 {cs : Array Value} (h : cs.size = 8) : ∃ a b c d e f g i, cs = #[a, b, c, d, e, f, g, i] := by
  obtain ⟨l⟩ := cs
  match l, h with
  | [a, b, c, d, e, f, g, i], _ => exact ⟨a, b, c, d, e, f, g, i, rfl⟩
theorem cellsP : Tryz.prog.cellsOf 24 = 2 := by kernel_rfl
theorem cellsG : Tryz.prog.cellsOf 26 = 3 := by kernel_rfl
theorem cellsS : Tryz.prog.cellsOf 28 = 6 := by kernel_rfl
theorem cellsI : Tryz.prog.cellsOf 2 = 1 := by kernel_rfl
set_option maxRecDepth 100000 in
theorem open_seal_in {H : Type} {enc : TypeId × Value → H} {w : World} {base : Nat} {spare : Nat → Bool} {held : Bool} {fuel : Nat} {c0 c1 c2 c3 c4 c5 : Value} {y : DataW H × List MemPlace} (hf : DataW.trod enc Tryz.prog w base spare held fuel 28 [c0, c1, c2, c3, c4, c5] = some y) :
    ∃ k1 k2 u r1 r2 t : Int, c0 = .int .i64 k1 ∧ c1 = .int .i64 k2 ∧ c2 = .int .i64 u ∧ c3 = .int .i64 r1 ∧ c4 = .int .i64 r2 ∧ c5 = .int .i64 t := by
  obtain ⟨y0, y1, y2, n, _, _, h0, h1, h2⟩ := Go.Deep.trod_struct3 Tryz.underlying28 hf
  obtain ⟨z0, z1, m, _, _, g0, g1⟩ := trod_struct2 Tryz.underlying24 h0
  obtain ⟨x0, x1, m', _, _, e0, e1⟩ := trod_struct2 Tryz.underlying26 h2
  obtain ⟨v0, v1, m2, _, _, d0, d1⟩ := trod_struct2 Tryz.underlying24 e0
  obtain ⟨k1, q0, _, _⟩ := DataW.trod_int Tryz.underlying2 g0
  obtain ⟨k2, q1, _, _⟩ := DataW.trod_int Tryz.underlying2 g1
  obtain ⟨u, q2, _, _⟩ := DataW.trod_int Tryz.underlying2 h1
  obtain ⟨r1, q3, _, _⟩ := DataW.trod_int Tryz.underlying2 d0
  obtain ⟨r2, q4, _, _⟩ := DataW.trod_int Tryz.underlying2 d1
  obtain ⟨t, q5, _, _⟩ := DataW.trod_int Tryz.underlying2 e1
  simp [cellsP, cellsG, cellsI] at q0 q1 q2 q3 q4 q5
  exact ⟨k1, k2, u, r1, r2, t, q0, q1, q2, q3, q4, q5⟩
set_option maxRecDepth 100000 in
theorem open_seal {H : Type} {enc : TypeId × Value → H} {w : World} {r : Reach} {b0 base : Nat} {spare : Nat → Bool} {held : Bool} {v : Value} {d : DataW H} {p : List MemPlace} (hv : Value.okWide Tryz.prog w r b0 28 v) (h : DataW.Trod enc Tryz.prog w base spare held 28 v d p) :
    ∃ k1 k2 u r1 r2 t : Int, v = sv k1 k2 u r1 r2 t := by
  obtain ⟨cs, rfl, hsz⟩ := okWide_struct Tryz.underlying28 hv
  obtain ⟨c0, c1, c2, c3, c4, c5, rfl⟩ := array6 (hsz.trans cellsS)
  obtain ⟨fuel, hf⟩ := h
  obtain ⟨k1, k2, u, r1, r2, t, rfl, rfl, rfl, rfl, rfl, rfl⟩ := open_seal_in hf
  exact ⟨k1, k2, u, r1, r2, t, rfl⟩
theorem cellsD : Tryz.prog.cellsOf 30 = 8 := by kernel_rfl
theorem cellsT : Tryz.prog.cellsOf 9 = 1 := by kernel_rfl
theorem cellsK : Tryz.prog.cellsOf 22 = 1 := by kernel_rfl
set_option maxRecDepth 100000 in
theorem open_deed {H : Type} {enc : TypeId × Value → H} {w : World} {r : Reach} {b0 base : Nat} {spare : Nat → Bool} {held : Bool} {v : Value} {d : DataW H} {p : List MemPlace} (hv : Value.okWide Tryz.prog w r b0 30 v) (h : DataW.Trod enc Tryz.prog w base spare held 30 v d p) :
    ∃ (z : ByteArray) (a : Option Addr) (cap : Nat) (L : List Ln) (k1 k2 u r1 r2 t : Int), v = dv z (.slice a L.length cap) k1 k2 u r1 r2 t ∧ z.size ≤ 9223372036854775807 ∧ Pt.In w a cap L := by
  obtain ⟨cs, rfl, hsz⟩ := okWide_struct Tryz.underlying30 hv
  obtain ⟨c0, c1, c2, c3, c4, c5, c6, c7, rfl⟩ := array8 (hsz.trans cellsD)
  obtain ⟨fuel, hf⟩ := h
  obtain ⟨y0, y1, y2, n, _, _, h0, h1, h2⟩ := Go.Deep.trod_struct3 Tryz.underlying30 hf
  simp only [cellsT, cellsK, cellsS, Value.cells] at h0 h1 h2
  obtain ⟨k1, k2, u, r1, r2, t, rfl, rfl, rfl, rfl, rfl, rfl⟩ := open_seal_in h2
  obtain ⟨a, cap, L, rfl, hin⟩ := Pt.open_points_in h1
  obtain ⟨z, e0, _, hz⟩ := DataW.trod_string Tryz.underlying9 h0
  have e0' : c0 = .string z := by simpa using e0
  subst e0'
  exact ⟨z, a, cap, L, k1, k2, u, r1, r2, t, rfl, hz, hin⟩
end Go.Proofs.YtmdlgogpgedgnaaGreatDoor.Dd
