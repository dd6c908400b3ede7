/-
  Times, numbers with a blank, what is sealed, and SealOf of the program.
-/
import Derived.Test.YtmdlgogpgedgnaaGreatDoorDeedD
import Derived.Test.YtmdlgogpgedgnaaGreatDoorNameL
import Derived.Test.YtmdlgogpgedgnaaGreatDoorQuiet
import Derived.Test.YtmdlgogpgedgnaaGreatDoorSignK
import Derived.Test.YtmdlgogpgedgnaaGreatDoorSignU
namespace Go.Proofs.YtmdlgogpgedgnaaGreatDoor.Dd
open Go.ChangeShapes Go.WideShapes Go.ChangeAt Go.RowKit
open Cv Cu Sg
open Go.Proofs.YtmdlgogpgedgnaaGreatDoor.Pt (Ln lat)
open Go.Proofs.YtmdlgogpgedgnaaGreatDoor.Bo (Box Box.new Box.newAt Box.kept Box.alloc Box.put Box.other Box.c Box.drew)
open Go.Proofs.YtmdlgogpgedgnaaGreatDoor.Nm (bs okB)
open Go.Proofs.YtmdlgogpgedgnaaGreatDoor.Ro (timB secB inB)
open Go.Proofs.YtmdlgogpgedgnaaGreatDoor.Rc (BelowBy wp_region_below calls_below calls_same)
set_option linter.unusedVariables false
theorem inB_of {n lo hi : Int} : inB n lo hi = (decide (lo ≤ n) && decide (n ≤ hi)) := rfl
set_option maxRecDepth 100000 in
theorem impl_timeOk (n : Int) (w : World) : Calls Tryz.prog 64 #[.int .i64 n] w fun e w' => e = .returned (.bool (timB n)) ∧ w' = w := by
  unfold timB inB
  by_cases h : 0 ≤ n
  · have h' : decide ((0 : Int) ≤ n) = true := decide_eq_true h
    rw [h', Bool.true_and]
    go_enter Tryz.func64, Tryz.ntmps64
    go_wp2
    go_ret
    exact ⟨rfl, rfl⟩
  · have h' : decide ((0 : Int) ≤ n) = false := decide_eq_false h
    rw [h', Bool.false_and]
    go_enter Tryz.func64, Tryz.ntmps64
    go_wp2
    go_ret
    exact ⟨rfl, rfl⟩
theorem formatInt_S (n : Nat) (w : World) (hn : n ≤ 1099511627776) (ht : Tab w) : Calls Tryz.prog 63 #[.int .i64 n, .int .i64 10] w fun e w' => e = .returned (.string (numS n)) ∧ Below w.heap.size w w' :=
  formatInt_any n (by omega) (by omega) w ht
set_option maxRecDepth 100000 in
set_option maxHeartbeats 2000000 in
theorem impl_withBlank (u : Nat) (w : World) (hu : u ≤ 1099511627776) (ht : Tab w) : Calls Tryz.prog 48 #[.int .i64 u] w fun e w' => e = .returned (.string (numS u ++ ⟨#[32]⟩)) ∧ Below w.heap.size w w' := by
  have CF := hidIt (fun W t => formatInt_S u W hu t)
  have hx := numS_size u hu
  generalize numS u = x at CF hx ⊢
  have q0 : (⟨#[32]⟩ : ByteArray).size = 1 := rfl
  have q1 : ¬ 9223372036854775807 < x.size + 1 := by omega
  go_enter Tryz.func48, Tryz.ntmps48
  go_wp2_with (fail)
  refine (CF.out _ ht).mono ?_
  rintro e w1 ⟨rfl, k⟩
  go_wp2_with (fail)
  go_ret
  exact ⟨rfl, k⟩
set_option maxRecDepth 100000 in
set_option maxHeartbeats 2000000 in
theorem impl_sealed (u : Nat) (s : ByteArray) (w : World) (hu : u ≤ 1000000) (hs : s.size ≤ 4611686018427370000) (ht : Tab w) : Calls Tryz.prog 66 #[.int .i64 u, .string s] w fun e w' => e = .returned (.string (stx u s)) ∧ Below w.heap.size w w' := by
  have CF := hidIt (fun W t => impl_withBlank u W (by omega) t)
  have hx := numS_size u (by omega)
  rw [stx_eq]
  have q0 : (⟨#[32]⟩ : ByteArray).size = 1 := rfl
  have hy : (numS u ++ ⟨#[32]⟩).size ≤ 22 := by rw [ByteArray.size_append]; omega
  generalize numS u ++ ⟨#[32]⟩ = x at CF hy ⊢
  have q2 : ¬ 9223372036854775807 < x.size + s.size := by omega
  clear hx q0
  go_enter Tryz.func66, Tryz.ntmps66
  go_wp2_with (fail)
  refine (CF.out _ ht).mono ?_
  rintro e w1 ⟨rfl, k⟩
  go_wp2_with (fail)
  go_ret
  exact ⟨rfl, k⟩
end Go.Proofs.YtmdlgogpgedgnaaGreatDoor.Dd
