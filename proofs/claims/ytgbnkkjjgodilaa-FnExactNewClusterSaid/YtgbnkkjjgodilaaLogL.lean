/-
  What the laws' own helpers of chapter 4 answer: szLineS, toLineS, eqLineS.
-/
import Derived.Test.YtgbnkkjjgodilaaLogS
import Derived.OwnWalk
import Derived.Laws.AppendOwn
namespace Go.Proofs.Ytgbnkkjjgodilaa.Lg
open Go.ChangeShapes Go.WideShapes Go.ChangeAt Go.RowKit
open Sg
set_option linter.unusedVariables false
set_option maxHeartbeats 2000000 in
theorem eqLine_any (s : ByteArray) (q : Int) (w : World) :
    Calls Try.prog 51 #[.agg #[.string s, .int .i64 q], .agg #[.string s, .int .i64 q]] w fun e w' => e = .returned (.bool true) ∧ Below w.heap.size w w' := by
  go_enter Try.func51, Try.ntmps51
  go_wp2
  go_ret
  exact ⟨rfl, ((Below.refl w.heap.size w).alloc (Nat.le_refl _) _).alloc (by simp) _⟩
theorem infoLn : (Try.prog.info? 71).map (fun i => (i.zero, i.size, i.bytes)) = some (some (.agg #[.string ByteArray.empty, .int .i64 0]), 2, 24) := by kernel_rfl
theorem held4c {W wA : World} {b x y c u v : Nat} {a0 a1 a2 a3 : Value} (k : Below W.heap.size W wA) (h : W.cell? ⟨b, x, none⟩ = some a0 ∧ W.cell? ⟨b, y, none⟩ = some a1 ∧ W.cell? ⟨c, u, none⟩ = some a2 ∧ W.cell? ⟨c, v, none⟩ = some a3) : wA.cell? ⟨b, x, none⟩ = some a0 ∧ wA.cell? ⟨b, y, none⟩ = some a1 ∧ wA.cell? ⟨c, u, none⟩ = some a2 ∧ wA.cell? ⟨c, v, none⟩ = some a3 := by
  rw [k.cell (p := ⟨b, x, none⟩) (cell_block h.1), k.cell (p := ⟨b, y, none⟩) (cell_block h.1), k.cell (p := ⟨c, u, none⟩) (cell_block h.2.2.1), k.cell (p := ⟨c, v, none⟩) (cell_block h.2.2.1)]
  exact h
theorem held4c_drew {W wA : World} {b x y c u v : Nat} {a0 a1 a2 a3 : Value} (k : Below W.drew.heap.size W.drew wA) (h : W.cell? ⟨b, x, none⟩ = some a0 ∧ W.cell? ⟨b, y, none⟩ = some a1 ∧ W.cell? ⟨c, u, none⟩ = some a2 ∧ W.cell? ⟨c, v, none⟩ = some a3) : wA.cell? ⟨b, x, none⟩ = some a0 ∧ wA.cell? ⟨b, y, none⟩ = some a1 ∧ wA.cell? ⟨c, u, none⟩ = some a2 ∧ wA.cell? ⟨c, v, none⟩ = some a3 := held4c (W := W.drew) k h
set_option maxRecDepth 100000 in
set_option maxHeartbeats 4000000 in
theorem eqLineS_any (a b : Option Addr) (ca cb : Nat) (L : List Ln) (w : World) (ha : Rd w a L) (hb : Rd w b L) (hl : L.length ≤ 9223372036854775806) :
    Calls Try.prog 41 #[.slice a L.length ca, .slice b L.length cb] w fun e w' => e = .returned (.bool true) ∧ Below w.heap.size w w' := by
  generalize hn : L.length = n at *
  have HA := hidIt ha
  have HB := hidIt hb
  have HN := hidIt hn
  clear ha hb hn
  have hnn : ((n : Int) != (n : Int)) = false := by simp
  go_enter Try.func41, Try.ntmps41
  go_wp2_with (fail)
  go_loopw [5] (fun y wx => ∃ i : Nat, y = .int .i64 i ∧ i ≤ n ∧ Below w.heap.size w wx) (fun y _ => (n - intOf y).toNat)
  case atStart => exact ⟨0, rfl, by omega, Below.refl _ _⟩
  case round =>
    obtain ⟨i, rfl, hi, hB⟩ := hrel
    have RA := hidIt (HA.out.kept hB)
    have RB := hidIt (HB.out.kept hB)
    have KX := hidIt hB
    clear hB
    by_cases hin : i < n
    · have hin' : (i : Int) < (n : Int) := by omega
      obtain ⟨b1, o1, rfl, c0, c1⟩ := RA.out.cell i (by rw [HN.out]; omega)
      obtain ⟨b2, o2, rfl, d0, d1⟩ := RB.out.cell i (by rw [HN.out]; omega)
      generalize lat L i = x at c0 c1 d0 d1
      obtain ⟨s, q⟩ := x
      have hf := And.intro c0 (And.intro c1 (And.intro d0 d1))
      clear RA RB HA HB
      go_wp2_with (fail)
      go_region_held3 (fun w' => w'.cell? ⟨b1, o1 + i * 2, none⟩ = some (.string s) ∧ w'.cell? ⟨b1, o1 + i * 2 + 1, none⟩ = some (.int .i64 q) ∧ w'.cell? ⟨b2, o2 + i * 2, none⟩ = some (.string s) ∧ w'.cell? ⟨b2, o2 + i * 2 + 1, none⟩ = some (.int .i64 q))
        (first | assumption | (with_reducible exact held4c_drew hbB hf) | go_keep)
        (first | (go_at_call 51; refine (eqLine_any s q _).mono ?_; rintro e wB ⟨rfl, hbB⟩))
      have hBB : Hid (Below w.heap.size w wB) := hidIt (KX.out.drew.trans (hbB.mono (by have := KX.out.size; simpa using this)))
      clear hbB hf
      go_wp2_with (fail)
      exact ⟨⟨i + 1, by simp, by omega, hBB.out⟩, by simp [intOf]; omega⟩
    · have hin' : ¬ (i : Int) < (n : Int) := by omega
      go_wp2_with (fail)
      go_ret
      exact ⟨rfl, KX.out⟩
end Go.Proofs.Ytgbnkkjjgodilaa.Lg
