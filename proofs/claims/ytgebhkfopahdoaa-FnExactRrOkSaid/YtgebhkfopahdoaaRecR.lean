/-
  RrOk of the program and of the specification: a right Record; what the laws do with one Record.
-/
import Derived.Test.YtgebhkfopahdoaaRecQ
import Derived.Test.YtgebhkfopahdoaaNameL
import Derived.Test.YtgebhkfopahdoaaNameT
import Derived.Deep.RegionHeld3
namespace Go.Proofs.Ytgebhkfopahdoaa.Rc
open Go.ChangeShapes Go.WideShapes Go.ChangeAt Go.RowKit
open Go.Proofs.Ytgebhkfopahdoaa.Nm (Bytes bs B bs_length okB impl_NameOk spec_NameOk)
set_option linter.unusedVariables false
/-- A Record as a value. -/
abbrev rv (x : Rw) : Value := .agg #[.string x.1, .int .i64 x.2.1, .int .i64 x.2.2.1, .string x.2.2.2]
/-- The cells of a Record by value, in a block of its own. -/
structure Bx (w : World) (g : Nat) (x : Rw) : Prop where
  c0 : w.cell? ⟨g, 0, none⟩ = some (.string x.1)
  c1 : w.cell? ⟨g, 1, none⟩ = some (.int .i64 x.2.1)
  c2 : w.cell? ⟨g, 2, none⟩ = some (.int .i64 x.2.2.1)
  c3 : w.cell? ⟨g, 3, none⟩ = some (.string x.2.2.2)
theorem Bx.kept {w w' : World} {g : Nat} {x : Rw} (h : Bx w g x) (k : Below w.heap.size w w') : Bx w' g x :=
  ⟨by rw [k.cell (by simpa using cell_block h.c0)]; exact h.c0, by rw [k.cell (by simpa using cell_block h.c1)]; exact h.c1, by rw [k.cell (by simpa using cell_block h.c2)]; exact h.c2, by rw [k.cell (by simpa using cell_block h.c3)]; exact h.c3⟩
theorem below_box {W w' : World} {o : Obj} (k : Below (W.alloc o).heap.size (W.alloc o) w') : Below W.heap.size W w' :=
  ((Below.refl _ W).alloc (Nat.le_refl _) o).trans (k.mono (by simp))
def kindB (n : Int) : Bool := decide (1 ≤ n) && decide (n ≤ 5)
def ttlB (n : Int) : Bool := decide (0 ≤ n) && decide (n ≤ 100)
theorem okR_parts (x : Rw) : okR (toR x) = (okB (bs x.1) && (kindB x.2.1 && (ttlB x.2.2.1 && decide (x.2.2.2.size ≤ 60)))) := by
  unfold okR toR kindB ttlB
  simp only [bs_length]
set_option maxHeartbeats 2000000 in
theorem impl_typeOk (n : Int) (w : World) : Calls Try.prog 11 #[.int .i64 n] w fun e w' => e = .returned (.bool (kindB n)) ∧ w' = w := by
  unfold kindB
  by_cases h : 1 ≤ n
  · have h' : decide (1 ≤ n) = true := decide_eq_true h
    rw [h', Bool.true_and]
    go_enter Try.func11, Try.ntmps11
    go_wp2
    go_ret
    exact ⟨rfl, rfl⟩
  · have h' : decide (1 ≤ n) = false := decide_eq_false h
    rw [h', Bool.false_and]
    go_enter Try.func11, Try.ntmps11
    go_wp2
    go_ret
    exact ⟨rfl, rfl⟩
set_option maxHeartbeats 2000000 in
theorem spec_l1In (n lo hi : Int) (w : World) : Calls Try.prog 9 #[.int .i64 n, .int .i64 lo, .int .i64 hi] w fun e w' => e = .returned (.bool (decide (lo ≤ n) && decide (n ≤ hi))) ∧ w' = w := by
  by_cases h : lo ≤ n
  · have h' : decide (lo ≤ n) = true := decide_eq_true h
    rw [h', Bool.true_and]
    go_enter Try.func9, Try.ntmps9
    go_wp2
    go_ret
    exact ⟨rfl, rfl⟩
  · have h' : decide (lo ≤ n) = false := decide_eq_false h
    rw [h', Bool.false_and]
    go_enter Try.func9, Try.ntmps9
    go_wp2
    go_ret
    exact ⟨rfl, rfl⟩
set_option maxRecDepth 100000 in
set_option maxHeartbeats 4000000 in
theorem spec_RrOk (x : Rw) (w : World) : Calls Try.prog 5 #[rv x] w fun e w' => e = .returned (.bool (okR (toR x))) ∧ Below w.heap.size w w' := by
  rw [okR_parts]
  obtain ⟨s, n, m, u⟩ := x
  have hN := spec_NameOk s
  have hT := spec_l1In n 1 5
  have hL := spec_l1In m 0 100
  simp only [kindB, ttlB]
  generalize okB (bs s) = a at hN ⊢
  generalize (decide (1 ≤ n) && decide (n ≤ 5)) = b at hT ⊢
  generalize (decide (0 ≤ m) && decide (m ≤ 100)) = c at hL ⊢
  cases a <;> cases b <;> cases c <;>
  · go_enter Try.func5, Try.ntmps5
    go_wp2_with (first
      | (go_at_call 8; refine (hN _).mono ?_; clear hN; rintro e w1 ⟨rfl, k1⟩; have k := Bx.kept (x := (s, n, m, u)) (g := w.heap.size) ⟨by simp, by simp, by simp, by simp⟩ k1; have c1 := k.c1; have c2 := k.c2; have c3 := k.c3; clear k)
      | (go_at_call 9; refine (hT _).mono ?_; clear hT; rintro e w2 ⟨rfl, rfl⟩)
      | (go_at_call 9; refine (hL _).mono ?_; clear hL; rintro e w2 ⟨rfl, rfl⟩))
    go_ret
    exact ⟨by first | rfl | (show Ending.returned (.bool (decide ((u.size : Int) ≤ 60))) = .returned (.bool (decide (u.size ≤ 60))); rw [show decide ((u.size : Int) ≤ 60) = decide (u.size ≤ 60) from decide_eq_decide.2 (by omega)]), below_box k1⟩
set_option maxRecDepth 100000 in
set_option maxHeartbeats 4000000 in
theorem impl_RrOk (x : Rw) (w : World) : Calls Try.prog 7 #[rv x] w fun e w' => e = .returned (.bool (okR (toR x))) ∧ Below w.heap.size w w' := by
  rw [okR_parts]
  obtain ⟨s, n, m, u⟩ := x
  have hN := impl_NameOk s
  have hT := impl_typeOk n
  simp only [ttlB]
  generalize okB (bs s) = a at hN ⊢
  generalize kindB n = b at hT ⊢
  cases hc : decide (0 ≤ m) <;> cases hd : decide (m ≤ 100) <;>
  · have hc' := hc
    have hd' := hd
    simp only [decide_eq_true_eq, decide_eq_false_iff_not] at hc' hd'
    first
    | (exfalso; omega)
    | (cases a <;> cases b <;>
       (go_enter Try.func7, Try.ntmps7
        go_wp2_with (first
          | (go_at_call 10; refine (hN _).mono ?_; clear hN; rintro e w1 ⟨rfl, k1⟩; have k := Bx.kept (x := (s, n, m, u)) (g := w.heap.size) ⟨by simp, by simp, by simp, by simp⟩ k1; have c1 := k.c1; have c2 := k.c2; have c3 := k.c3; clear k)
          | (go_at_call 11; refine (hT _).mono ?_; clear hT; rintro e w2 ⟨rfl, rfl⟩))
        go_ret
        exact ⟨by first | rfl | (show Ending.returned (.bool (decide ((u.size : Int) ≤ 60))) = .returned (.bool (decide (u.size ≤ 60))); rw [show decide ((u.size : Int) ≤ 60) = decide (u.size ≤ 60) from decide_eq_decide.2 (by omega)]), below_box k1⟩))
set_option maxRecDepth 100000 in
set_option maxHeartbeats 4000000 in
theorem laws_toRr (x : Rw) (w : World) : Calls Try.prog 6 #[rv x] w fun e w' => e = .returned (rv x) ∧ Below w.heap.size w w' := by
  obtain ⟨s, n, m, u⟩ := x
  go_enter Try.func6, Try.ntmps6
  go_wp2
  refine bodyPost_ret (v := .agg #[.string s, .int .i64 n, .int .i64 m, .string u]) (by simp [results, Try.results6, go_sem]) rfl ⟨rfl, ?_⟩
  exact (((Below.refl w.heap.size w).alloc (Nat.le_refl _) _).alloc (by simp) _).alloc (by simp; omega) _
set_option maxRecDepth 100000 in
set_option maxHeartbeats 4000000 in
theorem laws_szRr (x : Rw) (l : Int) (w : World) (hs : x.1.size ≤ 9223372036854775807) (hu : x.2.2.2.size ≤ 9223372036854775807) (h0 : 0 ≤ l) (h1 : l ≤ 1048576) :
    Calls Try.prog 4 #[rv x, .int .i64 l] w fun e w' => ∃ r : Int, e = .returned (.int .i64 r) ∧ r ≤ l ∧ (0 ≤ r → x.1.size ≤ 1048576 ∧ x.2.2.2.size ≤ 1048576) ∧ Below w.heap.size w w' := by
  obtain ⟨s, n, m, u⟩ := x
  have g1 : -9223372036854775808 ≤ l - (s.size : Int) := by simp only at hs; omega
  have g2 : l - (s.size : Int) ≤ 9223372036854775807 := by omega
  by_cases c1 : l - (s.size : Int) < 0
  · go_enter Try.func4, Try.ntmps4
    go_wp2
    go_ret
    exact ⟨-1, rfl, by omega, fun h => by omega, (Below.refl _ w).alloc (Nat.le_refl _) _⟩
  · have g3 : -9223372036854775808 ≤ l - (s.size : Int) - (u.size : Int) := by simp only at hu; omega
    have g4 : l - (s.size : Int) - (u.size : Int) ≤ 9223372036854775807 := by omega
    by_cases c2 : l - (s.size : Int) - (u.size : Int) < 0
    · go_enter Try.func4, Try.ntmps4
      go_wp2
      go_ret
      exact ⟨-1, rfl, by omega, fun h => by omega, (Below.refl _ w).alloc (Nat.le_refl _) _⟩
    · go_enter Try.func4, Try.ntmps4
      go_wp2
      go_ret
      exact ⟨_, rfl, by omega, fun _ => ⟨by omega, by omega⟩, (Below.refl _ w).alloc (Nat.le_refl _) _⟩
end Go.Proofs.Ytgebhkfopahdoaa.Rc
