/-
  What the laws do with a Deed: szDeed, toDeed, eqDeed.
-/
import Derived.Test.YtmdlgogpgedgnaaGreatDoorDeedD
import Derived.Test.YtmdlgogpgedgnaaGreatDoorDeedM
namespace Go.Proofs.YtmdlgogpgedgnaaGreatDoor.Dd
open Go.ChangeShapes Go.WideShapes Go.ChangeAt Go.RowKit
open Cv Cu Sg
open Go.Proofs.YtmdlgogpgedgnaaGreatDoor.Pt (Ln lat szPointS_any toPointS_any eqPointS_any)
open Go.Proofs.YtmdlgogpgedgnaaGreatDoor.Bo (Box Box.new Box.newAt Box.kept Box.alloc Box.put Box.other Box.c Box.drew)
set_option linter.unusedVariables false
set_option maxRecDepth 100000 in
set_option maxHeartbeats 2000000 in
theorem szDeed_any (z : ByteArray) (a : Option Addr) (n cap : Nat) (k1 k2 u r1 r2 t : Int) (l : Int) (w : World) (hz : z.size ≤ 9223372036854775807) (hl : n ≤ 9223372036854775807) (h0 : 0 ≤ l) (h1 : l ≤ 1048576) :
    Calls Tryz.prog 4 #[dv z (.slice a n cap) k1 k2 u r1 r2 t, .int .i64 l] w fun e w' => ∃ r : Int, e = .returned (.int .i64 r) ∧ r ≤ l ∧ -1 ≤ r ∧ (0 ≤ r → n ≤ 1048576) ∧ Below w.heap.size w w' := by
  have g1 : -9223372036854775808 ≤ l - (z.size : Int) := by omega
  have g2 : l - (z.size : Int) ≤ 9223372036854775807 := by omega
  have HB := hidIt ((Below.refl w.heap.size w).alloc (Nat.le_refl _) (.cells (dc z (.slice a n cap) k1 k2 u r1 r2 t) 30))
  by_cases hn1 : l - (z.size : Int) < 0
  · go_enter Tryz.func4, Tryz.ntmps4
    go_wp2
    go_ret
    exact ⟨-1, rfl, by omega, by omega, fun h => by omega, HB.out⟩
  · generalize e1 : l - (z.size : Int) = m at g1 g2 hn1
    have CZ := hidIt (fun W => szPointS_any a cap n m W hl (by omega) (by omega))
    go_enter Tryz.func4, Tryz.ntmps4
    go_wp2_with (fail)
    refine (CZ.out _).mono ?_
    rintro e w1 ⟨r, rfl, hr1, hr0, hr2, rfl⟩
    have HR2 := hidIt hr2
    clear hr2
    by_cases hneg : r < 0
    · go_wp2_with (fail)
      go_ret
      exact ⟨-1, rfl, by omega, by omega, fun h => by omega, HB.out⟩
    · go_wp2_with (fail)
      go_ret
      exact ⟨r, rfl, by omega, by omega, HR2.out, HB.out⟩
set_option maxRecDepth 100000 in
set_option maxHeartbeats 4000000 in
theorem toDeed_any (z : ByteArray) (a : Option Addr) (cap : Nat) (L : List Ln) (k1 k2 u r1 r2 t : Int) (w : World) (h : Pt.Rd w a L) (hl : L.length ≤ 1048576) :
    Calls Tryz.prog 6 #[dv z (.slice a L.length cap) k1 k2 u r1 r2 t] w fun e w' => ∃ x cp, e = .returned (dv z (.slice x L.length cp) k1 k2 u r1 r2 t) ∧ Pt.Own w' w.heap.size (.slice x L.length cp) L ∧ Below w.heap.size w w' := by
  have CT := hidIt (fun W hW => toPointS_any a cap L W hW hl)
  have CS := hidIt (fun W => toSeal_any k1 k2 u r1 r2 t W)
  have HR := hidIt h
  clear h
  have BA : Hid (Box (((w.alloc (.cells (dc z (.slice a L.length cap) k1 k2 u r1 r2 t) 30)).alloc (.cells (dc ⟨#[]⟩ (.slice none 0 0) 0 0 0 0 0 0) 40)).alloc (.cells (dc z (.slice none 0 0) 0 0 0 0 0 0) 40)) w.heap.size (dc z (.slice a L.length cap) k1 k2 u r1 r2 t)) := hidIt (((Box.new w _ _).alloc _).alloc _)
  have BB : Hid (Box (((w.alloc (.cells (dc z (.slice a L.length cap) k1 k2 u r1 r2 t) 30)).alloc (.cells (dc ⟨#[]⟩ (.slice none 0 0) 0 0 0 0 0 0) 40)).alloc (.cells (dc z (.slice none 0 0) 0 0 0 0 0 0) 40)) (w.heap.size + 1) (dc ⟨#[]⟩ (.slice none 0 0) 0 0 0 0 0 0)) := hidIt ((Box.newAt (by simp)).alloc _)
  have BC : Hid (Box (((w.alloc (.cells (dc z (.slice a L.length cap) k1 k2 u r1 r2 t) 30)).alloc (.cells (dc ⟨#[]⟩ (.slice none 0 0) 0 0 0 0 0 0) 40)).alloc (.cells (dc z (.slice none 0 0) 0 0 0 0 0 0) 40)) (w.heap.size + 1 + 1) (dc z (.slice none 0 0) 0 0 0 0 0 0)) := hidIt (Box.newAt (by simp))
  have HB : Hid (Below w.heap.size w (((w.alloc (.cells (dc z (.slice a L.length cap) k1 k2 u r1 r2 t) 30)).alloc (.cells (dc ⟨#[]⟩ (.slice none 0 0) 0 0 0 0 0 0) 40)).alloc (.cells (dc z (.slice none 0 0) 0 0 0 0 0 0) 40))) := hidIt ((((Below.refl w.heap.size w).alloc (Nat.le_refl _) _).alloc (by simp) _).alloc (by simp; omega) _)
  go_enter Tryz.func6, Tryz.ntmps6
  go_wp2_with (fail)
  refine (CT.out _ (HR.out.kept HB.out)).mono ?_
  rintro e w1 ⟨v1, rfl, hO1, k⟩
  obtain ⟨x1, cp1, rfl, f1', m1, R1, hna, hsome⟩ := hO1.form
  have ne1 : w.heap.size ≠ w.heap.size + 1 + 1 := by omega
  have ne2 : w.heap.size + 1 ≠ w.heap.size + 1 + 1 := by omega
  have ne3 : w.heap.size + 1 + 1 ≠ w.heap.size := by omega
  have ne4 : w.heap.size + 1 + 1 ≠ w.heap.size + 1 := by omega
  have hle : w.heap.size ≤ w.heap.size + 1 + 1 := by omega
  have hle1 : w.heap.size ≤ w.heap.size + 1 := by omega
  replace BA := hidIt (BA.out.kept k)
  replace BB := hidIt (BB.out.kept k)
  replace BC := hidIt (BC.out.kept k)
  replace HB := hidIt (HB.out.trans (k.mono HB.out.size))
  have HO1 : Hid (Pt.Own w1 (w.heap.size + 1 + 1 + 1) (.slice x1 L.length cp1) L) := hidIt (hO1.mono (by simp))
  have lt1 : ∀ q, (Value.slice x1 L.length cp1).ownBlock = some q → w.heap.size + 1 + 1 < q ∧ w.heap.size + 1 < q := fun q hq => by have := (World.ownsRow.lt HO1.out q hq).1; omega
  have hn3 : w.heap.size ≤ w.heap.size + 1 + 1 + 1 := by omega
  clear hO1 R1 hna hsome k HR CT f1' m1
  generalize w.heap.size + 1 + 1 + 1 = n3 at *
  generalize w.heap.size + 1 + 1 = n2 at *
  generalize w.heap.size + 1 = n1 at *
  have a2 := BA.out.c 2 (v := .int .i64 k1) rfl
  have a3 := BA.out.c 3 (v := .int .i64 k2) rfl
  have a4 := BA.out.c 4 (v := .int .i64 u) rfl
  have a5 := BA.out.c 5 (v := .int .i64 r1) rfl
  have a6 := BA.out.c 6 (v := .int .i64 r2) rfl
  have a7 := BA.out.c 7 (v := .int .i64 t) rfl
  have c1 := BC.out.c 1 (v := .slice none 0 0) rfl
  have f1 := BC.out.fr 1
  go_wp2_with (fail)
  refine (CS.out _).mono ?_
  rintro e w2 ⟨rfl, k⟩
  replace BC := hidIt ((BC.out.put (c' := #[.string z, .slice x1 L.length cp1, .int .i64 0, .int .i64 0, .int .i64 0, .int .i64 0, .int .i64 0, .int .i64 0]) 1 (.slice x1 L.length cp1) (by simp) rfl).kept k)
  replace BB := hidIt ((BB.out.other (v := .slice x1 L.length cp1) (i := 1) ne4).kept k)
  replace HB := hidIt ((HB.out.setCell (p := ⟨n2, 1, none⟩) hle (.slice x1 L.length cp1)).trans (k.mono (by simpa using HB.out.size)))
  replace HO1 := hidIt (Pt.Own.kept (Pt.Own.only (c := n2) HO1.out ((Only.refl _ _).setCell 1 (.slice x1 L.length cp1)) (.inr fun q hq e => by have := (lt1 q hq).1; omega)) k)
  clear k a2 a3 a4 a5 a6 a7 c1 f1 BA
  have c0 := BC.out.c 0 (v := .string z) rfl
  have c1 := BC.out.c 1 (v := .slice x1 L.length cp1) rfl
  have c2 := BC.out.c 2 (v := .int .i64 0) rfl
  have c3 := BC.out.c 3 (v := .int .i64 0) rfl
  have c4 := BC.out.c 4 (v := .int .i64 0) rfl
  have c5 := BC.out.c 5 (v := .int .i64 0) rfl
  have c6 := BC.out.c 6 (v := .int .i64 0) rfl
  have c7 := BC.out.c 7 (v := .int .i64 0) rfl
  have f2 := BC.out.fr 2
  have f3 := BC.out.fr 3
  have f4 := BC.out.fr 4
  have f5 := BC.out.fr 5
  have f6 := BC.out.fr 6
  have f7 := BC.out.fr 7
  have b0 := BB.out.c 0 (v := .string ⟨#[]⟩) rfl
  have b1 := BB.out.c 1 (v := .slice none 0 0) rfl
  have b2 := BB.out.c 2 (v := .int .i64 0) rfl
  have b3 := BB.out.c 3 (v := .int .i64 0) rfl
  have b4 := BB.out.c 4 (v := .int .i64 0) rfl
  have b5 := BB.out.c 5 (v := .int .i64 0) rfl
  have b6 := BB.out.c 6 (v := .int .i64 0) rfl
  have b7 := BB.out.c 7 (v := .int .i64 0) rfl
  have d0 := BB.out.fr 0
  have d1 := BB.out.fr 1
  have d2 := BB.out.fr 2
  have d3 := BB.out.fr 3
  have d4 := BB.out.fr 4
  have d5 := BB.out.fr 5
  have d6 := BB.out.fr 6
  have d7 := BB.out.fr 7
  go_wp2_with (fail)
  have BZ := ((((((((((((((BB.out.other (v := .int .i64 k1) (i := 2) ne4).other (v := .int .i64 k2) (i := 3) ne4).other (v := .int .i64 u) (i := 4) ne4).other (v := .int .i64 r1) (i := 5) ne4).other (v := .int .i64 r2) (i := 6) ne4).other (v := .int .i64 t) (i := 7) ne4).put (c' := #[.string z, .slice none 0 0, .int .i64 0, .int .i64 0, .int .i64 0, .int .i64 0, .int .i64 0, .int .i64 0]) 0 (.string z) (by simp) rfl).put (c' := #[.string z, .slice x1 L.length cp1, .int .i64 0, .int .i64 0, .int .i64 0, .int .i64 0, .int .i64 0, .int .i64 0]) 1 (.slice x1 L.length cp1) (by simp) rfl).put (c' := #[.string z, .slice x1 L.length cp1, .int .i64 k1, .int .i64 0, .int .i64 0, .int .i64 0, .int .i64 0, .int .i64 0]) 2 (.int .i64 k1) (by simp) rfl).put (c' := #[.string z, .slice x1 L.length cp1, .int .i64 k1, .int .i64 k2, .int .i64 0, .int .i64 0, .int .i64 0, .int .i64 0]) 3 (.int .i64 k2) (by simp) rfl).put (c' := #[.string z, .slice x1 L.length cp1, .int .i64 k1, .int .i64 k2, .int .i64 u, .int .i64 0, .int .i64 0, .int .i64 0]) 4 (.int .i64 u) (by simp) rfl).put (c' := #[.string z, .slice x1 L.length cp1, .int .i64 k1, .int .i64 k2, .int .i64 u, .int .i64 r1, .int .i64 0, .int .i64 0]) 5 (.int .i64 r1) (by simp) rfl).put (c' := #[.string z, .slice x1 L.length cp1, .int .i64 k1, .int .i64 k2, .int .i64 u, .int .i64 r1, .int .i64 r2, .int .i64 0]) 6 (.int .i64 r2) (by simp) rfl).put (c' := #[.string z, .slice x1 L.length cp1, .int .i64 k1, .int .i64 k2, .int .i64 u, .int .i64 r1, .int .i64 r2, .int .i64 t]) 7 (.int .i64 t) (by simp) rfl)
  refine bodyPost_ret (v := dv z (.slice x1 L.length cp1) k1 k2 u r1 r2 t) ?_ rfl ⟨x1, cp1, rfl, ?_, ?_⟩
  · refine ret_box BZ (fun w9 j => ?_)
    have j0 := j.c 0 (v := .string z) rfl
    have j1 := j.c 1 (v := .slice x1 L.length cp1) rfl
    have j2 := j.c 2 (v := .int .i64 k1) rfl
    have j3 := j.c 3 (v := .int .i64 k2) rfl
    have j4 := j.c 4 (v := .int .i64 u) rfl
    have j5 := j.c 5 (v := .int .i64 r1) rfl
    have j6 := j.c 6 (v := .int .i64 r2) rfl
    have j7 := j.c 7 (v := .int .i64 t) rfl
    clear BZ c0 c1 c2 c3 c4 c5 c6 c7 f2 f3 f4 f5 f6 f7 b0 b1 b2 b3 b4 b5 b6 b7 d0 d1 d2 d3 d4 d5 d6 d7
    simp [results, Tryz.results6, go_sem, j0, j1, j2, j3, j4, j5, j6, j7]
  · exact Pt.Own.only (c := n1) (Pt.Own.only (c := n2) (HO1.out.mono hn3) (((((((Only.refl _ _).setCell 2 (.int .i64 k1)).setCell 3 (.int .i64 k2)).setCell 4 (.int .i64 u)).setCell 5 (.int .i64 r1)).setCell 6 (.int .i64 r2)).setCell 7 (.int .i64 t)) (.inr fun q hq e => by have := (lt1 q hq).1; omega)) (((((((((Only.refl _ _).setCell 0 (.string z)).setCell 1 (.slice x1 L.length cp1)).setCell 2 (.int .i64 k1)).setCell 3 (.int .i64 k2)).setCell 4 (.int .i64 u)).setCell 5 (.int .i64 r1)).setCell 6 (.int .i64 r2)).setCell 7 (.int .i64 t)) (.inr fun q hq e => by have := (lt1 q hq).2; omega)
  · exact ((((((((((((((HB.out.setCell (p := ⟨n2, 2, none⟩) hle (.int .i64 k1)).setCell (p := ⟨n2, 3, none⟩) hle (.int .i64 k2)).setCell (p := ⟨n2, 4, none⟩) hle (.int .i64 u)).setCell (p := ⟨n2, 5, none⟩) hle (.int .i64 r1)).setCell (p := ⟨n2, 6, none⟩) hle (.int .i64 r2)).setCell (p := ⟨n2, 7, none⟩) hle (.int .i64 t)).setCell (p := ⟨n1, 0, none⟩) hle1 (.string z)).setCell (p := ⟨n1, 1, none⟩) hle1 (.slice x1 L.length cp1)).setCell (p := ⟨n1, 2, none⟩) hle1 (.int .i64 k1)).setCell (p := ⟨n1, 3, none⟩) hle1 (.int .i64 k2)).setCell (p := ⟨n1, 4, none⟩) hle1 (.int .i64 u)).setCell (p := ⟨n1, 5, none⟩) hle1 (.int .i64 r1)).setCell (p := ⟨n1, 6, none⟩) hle1 (.int .i64 r2)).setCell (p := ⟨n1, 7, none⟩) hle1 (.int .i64 t))
set_option maxRecDepth 100000 in
set_option maxHeartbeats 4000000 in
theorem eqDeed_same (z : ByteArray) (a b : Option Addr) (ca cb : Nat) (L : List Ln) (k1 k2 u r1 r2 t : Int) (w : World) (ha : Pt.Rd w a L) (hb : Pt.Rd w b L) (hl : L.length ≤ 9223372036854775806) :
    Calls Tryz.prog 9 #[dv z (.slice a L.length ca) k1 k2 u r1 r2 t, dv z (.slice b L.length cb) k1 k2 u r1 r2 t] w fun e w' => e = .returned (.bool true) ∧ Below w.heap.size w w' := by
  have CE := hidIt (fun W h h' => eqPointS_any a b ca cb L W h h' hl)
  have CS := hidIt (fun W => eqSeal_same k1 k2 u r1 r2 t W)
  have HA := hidIt ha
  have HC := hidIt hb
  clear ha hb
  generalize L.length = n at *
  have BA : Hid (Box ((w.alloc (.cells (dc z (.slice a n ca) k1 k2 u r1 r2 t) 40)).alloc (.cells (dc z (.slice b n cb) k1 k2 u r1 r2 t) 40)) w.heap.size (dc z (.slice a n ca) k1 k2 u r1 r2 t)) := hidIt ((Box.new w _ _).alloc _)
  have BB : Hid (Box ((w.alloc (.cells (dc z (.slice a n ca) k1 k2 u r1 r2 t) 40)).alloc (.cells (dc z (.slice b n cb) k1 k2 u r1 r2 t) 40)) (w.heap.size + 1) (dc z (.slice b n cb) k1 k2 u r1 r2 t)) := hidIt (Box.newAt (by simp))
  have HB : Hid (Below w.heap.size w ((w.alloc (.cells (dc z (.slice a n ca) k1 k2 u r1 r2 t) 40)).alloc (.cells (dc z (.slice b n cb) k1 k2 u r1 r2 t) 40))) := hidIt (((Below.refl w.heap.size w).alloc (Nat.le_refl _) _).alloc (by simp) _)
  go_enter Tryz.func9, Tryz.ntmps9
  go_wp2_with (fail)
  refine (CE.out _ (HA.out.kept HB.out) (HC.out.kept HB.out)).mono ?_
  rintro e w1 ⟨rfl, k⟩
  replace BA := hidIt (BA.out.kept k)
  replace BB := hidIt (BB.out.kept k)
  replace HB := hidIt (HB.out.trans (k.mono HB.out.size))
  clear k CE HA HC
  generalize w.heap.size + 1 = n1 at *
  have a2 := BA.out.c 2 (v := .int .i64 k1) rfl
  have b2 := BB.out.c 2 (v := .int .i64 k1) rfl
  have a3 := BA.out.c 3 (v := .int .i64 k2) rfl
  have b3 := BB.out.c 3 (v := .int .i64 k2) rfl
  have a4 := BA.out.c 4 (v := .int .i64 u) rfl
  have b4 := BB.out.c 4 (v := .int .i64 u) rfl
  have a5 := BA.out.c 5 (v := .int .i64 r1) rfl
  have b5 := BB.out.c 5 (v := .int .i64 r1) rfl
  have a6 := BA.out.c 6 (v := .int .i64 r2) rfl
  have b6 := BB.out.c 6 (v := .int .i64 r2) rfl
  have a7 := BA.out.c 7 (v := .int .i64 t) rfl
  have b7 := BB.out.c 7 (v := .int .i64 t) rfl
  go_wp2_with (fail)
  refine (CS.out _).mono ?_
  rintro e w2 ⟨rfl, k⟩
  replace HB := hidIt (HB.out.trans (k.mono HB.out.size))
  clear k a2 a3 a4 a5 a6 a7 b2 b3 b4 b5 b6 b7 BA BB
  go_wp2_with (fail)
  go_ret
  exact ⟨rfl, HB.out⟩
end Go.Proofs.YtmdlgogpgedgnaaGreatDoor.Dd
