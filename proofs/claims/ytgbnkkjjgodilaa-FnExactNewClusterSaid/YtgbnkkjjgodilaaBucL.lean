/-
  What the laws do with one Bucket and with a list of them: the measure, the copy, whether two are alike. (Written by wip/mkrow.py.)
-/
import Derived.Test.YtgbnkkjjgodilaaBucM
import Derived.Test.YtgbnkkjjgodilaaQuiet
import Derived.Handy
namespace Go.Proofs.Ytgbnkkjjgodilaa.Bu
open Go.ChangeShapes Go.WideShapes Go.ChangeAt Go.RowKit
open Go.Proofs.Ytgbnkkjjgodilaa.Rc (BelowBy BelowBy.one wp_region_below calls_below calls_same)
set_option linter.unusedVariables false
/-- What a measure leaves: no more than there was, and less by how many there are. -/
structure Le2 (r l : Int) (m : Nat) : Prop where
  le : r ≤ l
  sum : 0 ≤ r → r + (m : Int) ≤ l
set_option maxRecDepth 100000 in
set_option maxHeartbeats 4000000 in
theorem eq_same (x : Rw) (w : World) : Calls Try.prog 50 #[rv x, rv x] w fun e w' => e = .returned (.bool true) ∧ Below w.heap.size w w' := by
  obtain ⟨x0, x1, x2⟩ := x
  go_enter Try.func50, Try.ntmps50
  go_wp2
  go_ret
  exact ⟨rfl, by go_grown⟩
theorem rcells_zero (m : Nat) : rcells (List.replicate m (0, 0, 0)) = (madeCells #[.int .i64 0, .int .i64 0, .int .i64 0] (m * 3)).toList := by
  apply List.ext_getElem?
  intro x
  by_cases hx : x < m * 3
  · have e : x = x / 3 * 3 + x % 3 := by omega
    have h1 := rcells_get (List.replicate m (0, 0, 0)) (x / 3) (x % 3) (by rw [List.length_replicate]; omega) (by omega)
    rw [← e] at h1
    have h2 : rat (List.replicate m (0, 0, 0)) (x / 3) = (0, 0, 0) := by
      rw [rat_at (by rw [List.length_replicate]; omega), List.getElem_replicate]
    rw [h1, h2]
    have h3 : x % 3 = 0 ∨ x % 3 = 1 ∨ x % 3 = 2 := by omega
    rcases h3 with h | h | h <;> simp [madeCells, hx, h, rcell]
  · rw [List.getElem?_eq_none (by rw [rcells_length, List.length_replicate]; omega), List.getElem?_eq_none (by simp [madeCells]; omega)]
set_option maxRecDepth 100000 in
set_option maxHeartbeats 4000000 in
theorem eqS_same (a a' : Option Addr) (cap cap' : Nat) (L : List Rw) (w : World) (h : Rd w a L) (h' : Rd w a' L) (hl : L.length ≤ 9223372036854775807) :
    Calls Try.prog 40 #[.slice a L.length cap, .slice a' L.length cap'] w fun e w' => e = .returned (.bool true) ∧ Below w.heap.size w w' := by
  generalize hn : L.length = m at *
  have HA := hidIt h
  have HA' := hidIt h'
  have HN := hidIt hn
  clear h h' hn
  have hmm : ((m : Int) != (m : Int)) = false := by simp
  go_enter Try.func40, Try.ntmps40
  go_wp2_with (fail)
  go_loopw [5] (fun y wx => ∃ i : Nat, y = .int .i64 i ∧ i ≤ m ∧ Hid (Below w.heap.size w wx)) (fun y _ => (m - intOf y).toNat)
  case atStart => exact ⟨0, rfl, by omega, hidIt (Below.refl _ _)⟩
  case round =>
    obtain ⟨i, rfl, hi, hB⟩ := hrel
    by_cases hin : i < m
    · have hin' : (i : Int) < (m : Int) := by omega
      obtain ⟨b, off, rfl, c0, c1, c2⟩ := (HA.out.kept hB.out).all (i := i) (by rw [HN.out]; exact hin)
      obtain ⟨b', off', rfl, d0, d1, d2⟩ := (HA'.out.kept hB.out).all (i := i) (by rw [HN.out]; exact hin)
      have hC := eq_same (rat L i)
      generalize rat L i = x at c0 c1 c2 d0 d1 d2 hC
      obtain ⟨x0, x1, x2⟩ := x
      simp only [rv] at hC c0 c1 c2 d0 d1 d2
      have HC := hidIt hC
      clear hC
      haveI := BelowBy.one wr
      have g0 := fun p : BelowBy wr => p.cell c0
      have g1 := fun p : BelowBy wr => p.cell c1
      have g2 := fun p : BelowBy wr => p.cell c2
      have k0 := fun p : BelowBy wr => p.cell d0
      have k1 := fun p : BelowBy wr => p.cell d1
      have k2 := fun p : BelowBy wr => p.cell d2
      go_wp2_with (fail)
      refine wp_region_below (by kernel_rfl) (by kernel_rfl) ?_
      repeat (go_big_quiet_step (first | (go_at_call 50; refine calls_below (HC.out _))))
      refine wpQuiet_nil ?_
      intro _ hw'
      obtain ⟨pq, rfl⟩ := hw'
      have hB1 := hidIt (hB.out.trans (pq.h.mono hB.out.size))
      generalize pq.world = w2 at hB1 ⊢
      clear c0 c1 c2 d0 d1 d2 g0 g1 g2 k0 k1 k2
      go_wp2_with (fail)
      exact ⟨⟨i + 1, by simp, by omega, hB1⟩, by simp [intOf]; omega⟩
    · have hin' : ¬ (i : Int) < (m : Int) := by omega
      go_wp2_with (fail)
      go_ret
      exact ⟨rfl, hB.out⟩
end Go.Proofs.Ytgbnkkjjgodilaa.Bu
