/-
  A Roll (five numbers): RollOk of the specification; what the laws do with a Roll.
-/
import Derived.Test.YtceddedlfdgbhaaGreatDoorMem
import Derived.Test.YtceddedlfdgbhaaGreatDoorProg
import Derived.BigCall
import Derived.BigGuard
import Derived.BigQuiet
import Derived.OpenShut
import Derived.Deep.RegionHeld3
namespace Go.Proofs.YtceddedlfdgbhaaGreatDoor.Ro
open Go.ChangeShapes Go.WideShapes Go.ChangeAt Go.RowKit
set_option linter.unusedVariables false
theorem hidIt {p : Prop} (h : p) : Hid p := h
/-- A Roll as a value. -/
abbrev rv (p m o n a : Int) : Value := .agg #[.int .i64 p, .int .i64 m, .int .i64 o, .int .i64 n, .int .i64 a]
abbrev rbox (p m o n a : Int) (T : TypeId) : Obj := .cells #[.int .i64 p, .int .i64 m, .int .i64 o, .int .i64 n, .int .i64 a] T
def inB (n lo hi : Int) : Bool := decide (lo ≤ n) && decide (n ≤ hi)
abbrev secB (n : Int) : Bool := inB n 1 2548
abbrev timB (n : Int) : Bool := inB n 0 1000000
/-- RollOk of the tests: secrets, time, stable, New is none, Phase 2 or 3, New a secret. -/
def rollB (p : Int) (sm so ta : Bool) (z : Bool) (ph sn : Bool) : Bool := sm && (so && (ta && (if p = 1 then z else (ph && sn))))
theorem rollB_other {p : Int} (h : p ≠ 1) {z ph sn : Bool} : rollB p true true true z ph sn = (ph && sn) := by simp [rollB, h]
def rollOk (p m o n a : Int) : Bool := rollB p (secB m) (secB o) (timB a) (n == 0) (inB p 2 3) (secB n)
set_option maxHeartbeats 2000000 in
theorem spec_l1In (n lo hi : Int) (w : World) : Calls Tryz.prog 32 #[.int .i64 n, .int .i64 lo, .int .i64 hi] w fun e w' => e = .returned (.bool (inB n lo hi)) ∧ w' = w := by
  unfold inB
  by_cases h : lo ≤ n
  · have h' : decide (lo ≤ n) = true := decide_eq_true h
    rw [h', Bool.true_and]
    go_enter Tryz.func32, Tryz.ntmps32
    go_wp2
    go_ret
    exact ⟨rfl, rfl⟩
  · have h' : decide (lo ≤ n) = false := decide_eq_false h
    rw [h', Bool.false_and]
    go_enter Tryz.func32, Tryz.ntmps32
    go_wp2
    go_ret
    exact ⟨rfl, rfl⟩
theorem spec_l3Secret (n : Int) (w : World) : Calls Tryz.prog 56 #[.int .i64 n] w fun e w' => e = .returned (.bool (secB n)) ∧ w' = w := by
  unfold secB
  have C := hidIt (fun W => spec_l1In n 1 2548 W)
  generalize inB n 1 2548 = b at C ⊢
  go_enter Tryz.func56, Tryz.ntmps56
  go_wp2_with (fail)
  refine (C.out _).mono ?_
  rintro e w1 ⟨rfl, rfl⟩
  go_wp2_with (fail)
  go_ret
  exact ⟨rfl, rfl⟩
theorem spec_l9Time (n : Int) (w : World) : Calls Tryz.prog 19 #[.int .i64 n] w fun e w' => e = .returned (.bool (timB n)) ∧ w' = w := by
  unfold timB
  have C := hidIt (fun W => spec_l1In n 0 1000000 W)
  generalize inB n 0 1000000 = b at C ⊢
  go_enter Tryz.func19, Tryz.ntmps19
  go_wp2_with (fail)
  refine (C.out _).mono ?_
  rintro e w1 ⟨rfl, rfl⟩
  go_wp2_with (fail)
  go_ret
  exact ⟨rfl, rfl⟩
set_option maxRecDepth 100000 in
set_option maxHeartbeats 4000000 in
theorem spec_RollOk (p m o n a : Int) (w : World) : Calls Tryz.prog 35 #[rv p m o n a] w fun e w' => e = .returned (.bool (rollOk p m o n a)) ∧ w' = w.alloc (rbox p m o n a 42) := by
  have S0 := hidIt (fun W => spec_l3Secret m W)
  have S1 := hidIt (fun W => spec_l3Secret o W)
  have S2 := hidIt (fun W => spec_l3Secret n W)
  have T0 := hidIt (fun W => spec_l9Time a W)
  have CP := hidIt (fun W => spec_l1In p 2 3 W)
  unfold rollOk
  generalize secB m = sm at *
  generalize secB o = so at *
  generalize secB n = sn at *
  generalize timB a = ta at *
  generalize inB p 2 3 = ph at *
  go_enter Tryz.func35, Tryz.ntmps35
  go_wp2_with (fail)
  refine (S0.out _).mono ?_
  rintro e w1 ⟨rfl, rfl⟩
  cases sm with
  | false =>
    go_wp2_with (fail)
    go_ret
    exact ⟨by first | rfl | simp [rollB], rfl⟩
  | true =>
    go_wp2_with (fail)
    refine (S1.out _).mono ?_
    rintro e w1 ⟨rfl, rfl⟩
    cases so with
    | false =>
      go_wp2_with (fail)
      go_ret
      exact ⟨by first | rfl | simp [rollB], rfl⟩
    | true =>
      go_wp2_with (fail)
      refine (T0.out _).mono ?_
      rintro e w1 ⟨rfl, rfl⟩
      cases ta with
      | false =>
        go_wp2_with (fail)
        go_ret
        exact ⟨by first | rfl | simp [rollB], rfl⟩
      | true =>
        by_cases h1 : p = 1
        · subst h1
          go_wp2_with (fail)
          go_ret
          exact ⟨by first | rfl | simp [rollB] | (simp [rollB]; done), rfl⟩
        · have h1b : (p == 1) = false := by simpa using h1
          go_wp2_with (fail)
          refine (CP.out _).mono ?_
          rintro e w1 ⟨rfl, rfl⟩
          cases ph with
          | false =>
            go_wp2_with (fail)
            go_ret
            exact ⟨by rw [rollB_other h1]; rfl, rfl⟩
          | true =>
            go_wp2_with (fail)
            refine (S2.out _).mono ?_
            rintro e w1 ⟨rfl, rfl⟩
            go_wp2_with (fail)
            go_ret
            exact ⟨by rw [rollB_other h1]; cases sn <;> rfl, rfl⟩
set_option maxRecDepth 100000 in
set_option maxHeartbeats 4000000 in
theorem toRoll_any (p m o n a : Int) (w : World) : Calls Tryz.prog 42 #[rv p m o n a] w fun e w' => e = .returned (rv p m o n a) ∧ Below w.heap.size w w' := by
  go_enter Tryz.func42, Tryz.ntmps42
  go_wp2
  refine bodyPost_ret (v := rv p m o n a) (by simp [results, Tryz.results42, go_sem]) rfl ⟨rfl, ?_⟩
  exact (((Below.refl w.heap.size w).alloc (Nat.le_refl _) _).alloc (by simp) _).alloc (by simp; omega) _
set_option maxRecDepth 100000 in
set_option maxHeartbeats 4000000 in
theorem eqRoll_same (p m o n a : Int) (w : World) : Calls Tryz.prog 49 #[rv p m o n a, rv p m o n a] w fun e w' => e = .returned (.bool true) ∧ Below w.heap.size w w' := by
  go_enter Tryz.func49, Tryz.ntmps49
  go_wp2
  go_ret
  exact ⟨rfl, ((Below.refl w.heap.size w).alloc (Nat.le_refl _) _).alloc (by simp) _⟩
theorem array5 {α : Type} {cs : Array α} (h : cs.size = 5) : ∃ a b c d e, cs = #[a, b, c, d, e] := by
  obtain ⟨l⟩ := cs
  match l, h with
  | [a, b, c, d, e], _ => exact ⟨a, b, c, d, e, rfl⟩
theorem open_roll {H : Type} {P : Program} {enc : TypeId × Value → H} {w : World} {r : Reach} {b0 base : Nat} {spare : Nat → Bool} {held : Bool} {v : Value} {d : DataW H} {p : List MemPlace} {e : TypeId} {f0 f1 f2 f3 f4 : Field}
    (he : P.underlying e = some (.struct #[f0, f1, f2, f3, f4])) (ce : P.cellsOf e = 5) (o0 : f0.offset = 0) (o1 : f1.offset = 1) (o2 : f2.offset = 2) (o3 : f3.offset = 3) (o4 : f4.offset = 4)
    (c0 : P.cellsOf f0.type = 1) (c1 : P.cellsOf f1.type = 1) (c2 : P.cellsOf f2.type = 1) (c3 : P.cellsOf f3.type = 1) (c4 : P.cellsOf f4.type = 1)
    (t0 : P.underlying f0.type = some (.int .i64)) (t1 : P.underlying f1.type = some (.int .i64)) (t2 : P.underlying f2.type = some (.int .i64)) (t3 : P.underlying f3.type = some (.int .i64)) (t4 : P.underlying f4.type = some (.int .i64))
    (hv : Value.okWide P w r b0 e v) (h : DataW.Trod enc P w base spare held e v d p) : ∃ x0 x1 x2 x3 x4 : Int, v = rv x0 x1 x2 x3 x4 := by
  obtain ⟨cs, rfl, hsz⟩ := okWide_struct he hv
  obtain ⟨v0, v1, v2, v3, v4, rfl⟩ := array5 (hsz.trans ce)
  obtain ⟨fuel, hf⟩ := h
  obtain ⟨xs, k, hk, hxy, _, hxl, hf'⟩ := DataW.trod_struct he hf
  match xs, hxl with
  | [y0, y1, y2, y3, y4], _ =>
    have g0 := hf' 0 f0 rfl
    have g1 := hf' 1 f1 rfl
    have g2 := hf' 2 f2 rfl
    have g3 := hf' 3 f3 rfl
    have g4 := hf' 4 f4 rfl
    simp [o0, o1, o2, o3, o4, c0, c1, c2, c3, c4, Value.cells] at g0 g1 g2 g3 g4
    obtain ⟨q0, e0, _, _⟩ := DataW.trod_int t0 g0
    obtain ⟨q1, e1, _, _⟩ := DataW.trod_int t1 g1
    obtain ⟨q2, e2, _, _⟩ := DataW.trod_int t2 g2
    obtain ⟨q3, e3, _, _⟩ := DataW.trod_int t3 g3
    obtain ⟨q4, e4, _, _⟩ := DataW.trod_int t4 g4
    simp at e0 e1 e2 e3 e4
    subst e0 e1 e2 e3 e4
    exact ⟨q0, q1, q2, q3, q4, rfl⟩
/-- What lies in the five cells of a Roll. -/
structure Bx (w : World) (g : Nat) (p m o n a : Int) : Prop where
  c0 : w.cell? ⟨g, 0, none⟩ = some (.int .i64 p)
  c1 : w.cell? ⟨g, 1, none⟩ = some (.int .i64 m)
  c2 : w.cell? ⟨g, 2, none⟩ = some (.int .i64 o)
  c3 : w.cell? ⟨g, 3, none⟩ = some (.int .i64 n)
  c4 : w.cell? ⟨g, 4, none⟩ = some (.int .i64 a)
theorem cell_block {w : World} {b o : Nat} {v : Value} (h : w.cell? ⟨b, o, none⟩ = some v) : b < w.heap.size := World.block_lt_of_cell? w ⟨b, o, none⟩ h
theorem Bx.kept {w w' : World} {g : Nat} {p m o n a : Int} (h : Bx w g p m o n a) (k : Below w.heap.size w w') : Bx w' g p m o n a :=
  ⟨by rw [k.cell (by simpa using cell_block h.c0)]; exact h.c0, by rw [k.cell (by simpa using cell_block h.c1)]; exact h.c1, by rw [k.cell (by simpa using cell_block h.c2)]; exact h.c2, by rw [k.cell (by simpa using cell_block h.c3)]; exact h.c3, by rw [k.cell (by simpa using cell_block h.c4)]; exact h.c4⟩
theorem Bx.only {w w' : World} {g c : Nat} {p m o n a : Int} (h : Bx w g p m o n a) (k : Only c w w') (hne : g ≠ c) : Bx w' g p m o n a :=
  ⟨by rw [k.cell (p := ⟨g, 0, none⟩) (cell_block h.c0) hne]; exact h.c0, by rw [k.cell (p := ⟨g, 1, none⟩) (cell_block h.c0) hne]; exact h.c1, by rw [k.cell (p := ⟨g, 2, none⟩) (cell_block h.c0) hne]; exact h.c2, by rw [k.cell (p := ⟨g, 3, none⟩) (cell_block h.c0) hne]; exact h.c3, by rw [k.cell (p := ⟨g, 4, none⟩) (cell_block h.c0) hne]; exact h.c4⟩
end Go.Proofs.YtceddedlfdgbhaaGreatDoor.Ro
