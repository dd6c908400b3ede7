/-
  What the functions of chapter 2 answer, of the program and of the specification, in the plain numbers of Curve; they make memory, and turn nothing that was.
-/
import Derived.Test.YtllajhieocploaaGreatDoorField
import Derived.Test.YtllajhieocploaaGreatDoorCurve
import Derived.Test.YtllajhieocploaaGreatDoorMem
import Derived.Deep.QuietTactic
import Derived.BigQuiet
import Derived.Deep.RegionWith
namespace Go.Proofs.YtllajhieocploaaGreatDoor.Cv
open Go.ChangeShapes Go.WideShapes Go.ChangeAt Go.RowKit
open Cu
theorem bcell {W w1 : World} (hb : Below W.heap.size W w1) : (∀ b o, b < W.heap.size → w1.cell? ⟨b, o, none⟩ = W.cell? ⟨b, o, none⟩) ∧ (∀ b o, b < W.heap.size → w1.frozen? ⟨b, o, none⟩ = W.frozen? ⟨b, o, none⟩) :=
  ⟨fun b o h => hb.cell (p := ⟨b, o, none⟩) h, fun b o h => hb.frozen (p := ⟨b, o, none⟩) h⟩
theorem ret_int {k : IntKind} {a b : Int} (h : a = b) : Ending.returned (.int k a) = .returned (.int k b) := by rw [h]
theorem e_times (a b : Nat) (w : World) (ha : a < 10007) (hb : b < 10007) :
    Calls Tryz.prog 150 #[.int .i64 a, .int .i64 b] w fun e w' => e = .returned (.int .i64 (mu a b)) ∧ w' = w := by
  have b1 := Fd.mul_le a b ha hb
  go_enter Tryz.func150, Tryz.ntmps150
  go_wp2
  go_ret
  exact ⟨ret_int (by unfold mu; exact Fd.cast_mul_mod a b), rfl⟩
theorem e_plus (a b : Nat) (w : World) (ha : a < 10007) (hb : b < 10007) :
    Calls Tryz.prog 151 #[.int .i64 a, .int .i64 b] w fun e w' => e = .returned (.int .i64 (pl a b)) ∧ w' = w := by
  go_enter Tryz.func151, Tryz.ntmps151
  go_wp2
  go_ret
  exact ⟨ret_int (by unfold pl; omega), rfl⟩
theorem e_minus (a b : Nat) (w : World) (ha : a < 10007) (hb : b < 10007) :
    Calls Tryz.prog 162 #[.int .i64 a, .int .i64 b] w fun e w' => e = .returned (.int .i64 (mi a b)) ∧ w' = w := by
  go_enter Tryz.func162, Tryz.ntmps162
  go_wp2
  go_ret
  exact ⟨ret_int (by unfold mi; omega), rfl⟩
theorem e_inverse (a : Nat) (w : World) (ha : a < 10007) :
    Calls Tryz.prog 163 #[.int .i64 a] w fun e w' => e = .returned (.int .i64 (iv a)) ∧ w' = w := by
  go_enter Tryz.func163, Tryz.ntmps163
  go_wp2_with (first | (go_at_call 168; refine (Fd.power_any a 10005 _ ha (by decide)).mono ?_; rintro e w' ⟨rfl, rfl⟩) | fail)
  go_ret
  exact ⟨rfl, rfl⟩
theorem beq_cast (a b : Nat) : ((a : Int) == (b : Int)) = (a == b) := by
  by_cases h : a = b
  · subst h; simp
  · have : ¬ (a : Int) = (b : Int) := by omega
    rw [beq_eq_false_iff_ne.mpr this, beq_eq_false_iff_ne.mpr h]
/-- The curve's equation. -/
def onB (x y : Nat) : Bool := pl (mu x x) (mu y y) == pl 1 (mu (mu (mu x x) (mu y y)) 23)
set_option maxHeartbeats 1000000 in
theorem onCurve_any (x y : Nat) (w : World) (hx : x < 10007) (hy : y < 10007) :
    Calls Tryz.prog 141 #[.agg #[.int .i64 x, .int .i64 y]] w fun e w' => e = .returned (.bool (onB x y)) ∧ Below w.heap.size w w' := by
  go_enter Tryz.func141, Tryz.ntmps141
  go_wp2
  go_quiet ((go_at_call 150; refine (e_times _ _ _ (by assumption) (by assumption)).mono ?_; rintro e w' ⟨rfl, rfl⟩; exact ⟨rfl, _, rfl⟩))
  go_wp2_with (first | (go_at_call 150; refine (e_times _ _ _ (by first | assumption | exact mu_lt _ _) (by first | assumption | exact mu_lt _ _ | decide)).mono ?_; rintro e w' ⟨rfl, rfl⟩) | (go_at_call 151; refine (e_plus _ _ _ (by first | exact mu_lt _ _ | decide) (mu_lt _ _)).mono ?_; rintro e w' ⟨rfl, rfl⟩) | fail)
  go_ret
  refine ⟨?_, ?_⟩
  · show Ending.returned (.bool (((pl (mu x x) (mu y y) : Nat) : Int) == ((pl 1 (mu (mu (mu x x) (mu y y)) 23) : Nat) : Int))) = _
    unfold onB
    rw [beq_cast]
  · exact Below.drewN ((Below.refl _ _).alloc (Nat.le_refl _) _) _
set_option maxHeartbeats 4000000 in
theorem plus_any (a b p q : Nat) (w : World) (ha : a < 10007) (hb : b < 10007) (hp : p < 10007) (hq : q < 10007) :
    Calls Tryz.prog 149 #[.agg #[.int .i64 a, .int .i64 b], .agg #[.int .i64 p, .int .i64 q]] w fun e w' => e = .returned (.agg #[.int .i64 (adN (a, b) (p, q)).1, .int .i64 (adN (a, b) (p, q)).2]) ∧ Below w.heap.size w w' := by
  go_enter Tryz.func149, Tryz.ntmps149
  go_wp2
  go_quiet ((go_at_call 150; refine (e_times _ _ _ (by first | assumption | exact mu_lt _ _) (by first | assumption | decide)).mono ?_; rintro e w' ⟨rfl, rfl⟩; exact ⟨rfl, _, rfl⟩))
  go_wp2
  go_quiet ((first | (go_at_call 150; refine (e_times _ _ _ (by assumption) (by assumption)).mono ?_; rintro e w' ⟨rfl, rfl⟩; exact ⟨rfl, _, rfl⟩) | (go_at_call 151; refine (e_plus _ _ _ (mu_lt _ _) (mu_lt _ _)).mono ?_; rintro e w' ⟨rfl, rfl⟩; exact ⟨rfl, _, rfl⟩)))
  go_wp2
  go_quiet ((first | (go_at_call 150; refine (e_times _ _ _ (by assumption) (by assumption)).mono ?_; rintro e w' ⟨rfl, rfl⟩; exact ⟨rfl, _, rfl⟩) | (go_at_call 162; refine (e_minus _ _ _ (mu_lt _ _) (mu_lt _ _)).mono ?_; rintro e w' ⟨rfl, rfl⟩; exact ⟨rfl, _, rfl⟩)))
  go_wp2_with (first | (go_at_call 150; refine (e_times _ _ _ (by first | exact pl_lt _ _ | exact mi_lt _ _) (iv_lt _)).mono ?_; rintro e w' ⟨rfl, rfl⟩) | (go_at_call 151; refine (e_plus _ _ _ (by decide) (mu_lt _ _)).mono ?_; rintro e w' ⟨rfl, rfl⟩) | (go_at_call 162; refine (e_minus _ _ _ (by decide) (mu_lt _ _)).mono ?_; rintro e w' ⟨rfl, rfl⟩) | (go_at_call 163; refine (e_inverse _ _ (by first | exact pl_lt _ _ | exact mi_lt _ _)).mono ?_; rintro e w' ⟨rfl, rfl⟩) | fail)
  refine bodyPost_ret (v := .agg #[.int .i64 (adN (a, b) (p, q)).1, .int .i64 (adN (a, b) (p, q)).2]) (by simp [results, Tryz.results149, go_sem, adN, kN]) rfl ⟨rfl, ?_⟩
  exact ((Below.drewN ((((Below.refl _ _).alloc (Nat.le_refl _) _).alloc (by simp) _).alloc (by simp; omega) _) _).setCell (by simp; omega) _).setCell (by simp; omega) _
theorem point_any (a b : Nat) (w : World) :
    Calls Tryz.prog 139 #[.agg #[.int .i64 a, .int .i64 b]] w fun e w' => e = .returned (.agg #[.int .i64 a, .int .i64 b]) ∧ Below w.heap.size w w' := by
  go_enter Tryz.func139, Tryz.ntmps139
  go_wp2
  exact bodyPost_ret (v := .agg #[.int .i64 a, .int .i64 b]) (by simp [results, Tryz.results139, go_sem]) rfl ⟨rfl, ((Below.refl _ _).alloc (Nat.le_refl _) _).alloc (by simp) _⟩
theorem on_of {x y : Nat} (h : okN (x, y) = true) : onB x y = true := by
  unfold okN at h; simp only [Bool.and_eq_true] at h; exact h.2.2
set_option maxHeartbeats 1000000 in
theorem spotOf_yes (x y : Nat) (w : World) (h : okN (x, y) = true) :
    Calls Tryz.prog 133 #[.agg #[.int .i64 x, .int .i64 y]] w fun e w' => e = .returned (.tuple #[.agg #[.int .i64 x, .int .i64 y], .bool true]) ∧ Below w.heap.size w w' := by
  obtain ⟨hx, hy⟩ := ok_el h
  simp only at hx hy
  have hon := on_of h
  have h1 : (0 : Int) ≤ x := by omega
  have h2 : (x : Int) < 10007 := by omega
  have h3 : (0 : Int) ≤ y := by omega
  have h4 : (y : Int) < 10007 := by omega
  clear h
  go_enter Tryz.func133, Tryz.ntmps133
  go_wp2_with (first | (go_at_call 140; go_in) | fail)
  refine (onCurve_any x y _ hx hy).mono ?_
  rintro e w1 ⟨rfl, hb⟩
  rw [hon]
  obtain ⟨hc, hf⟩ := bcell hb
  have hz : w.heap.size + 2 < w1.heap.size := by have := hb.size; simp at this; omega
  go_wp2
  refine bodyPost_ret (v := .tuple #[.agg #[.int .i64 x, .int .i64 y], .bool true]) (by simp [results, Tryz.results133, go_sem, hc]) rfl ⟨rfl, ?_⟩
  exact ((((((Below.refl _ _).alloc (Nat.le_refl _) _).alloc (by simp) _).alloc (by simp; omega) _).trans (hb.mono (by simp; omega))).setCell (by simp) _).setCell (by simp) _
/-- A Point of any two int64. -/
def okI (x y : Int) : Bool := decide (0 ≤ x) && (decide (x < 10007) && (decide (0 ≤ y) && (decide (y < 10007) && onB x.toNat y.toNat)))
theorem okI_nat {x y : Int} (h : okI x y = true) : ∃ a b : Nat, x = a ∧ y = b ∧ okN (a, b) = true := by
  unfold okI at h
  simp only [Bool.and_eq_true, decide_eq_true_eq] at h
  refine ⟨x.toNat, y.toNat, by omega, by omega, ?_⟩
  unfold okN
  simp only [Bool.and_eq_true, decide_eq_true_eq]
  exact ⟨by omega, by omega, h.2.2.2.2⟩
theorem okI_cast (a b : Nat) : okI a b = okN (a, b) := by
  unfold okI okN onB
  have e1 : decide ((0 : Int) ≤ (a : Int)) = true := by simp
  have e2 : decide ((0 : Int) ≤ (b : Int)) = true := by simp
  have e3 : decide ((a : Int) < 10007) = decide (a < 10007) := by simp; omega
  have e4 : decide ((b : Int) < 10007) = decide (b < 10007) := by simp; omega
  rw [e1, e2, e3, e4]; rfl
set_option maxHeartbeats 1000000 in
theorem spotOf_no (x y : Int) (w : World) (h : okI x y = false) :
    Calls Tryz.prog 133 #[.agg #[.int .i64 x, .int .i64 y]] w fun e w' => e = .returned (.tuple #[.agg #[.int .i64 0, .int .i64 0], .bool false]) ∧ Below w.heap.size w w' := by
  by_cases h1 : 0 ≤ x
  · by_cases h2 : x < 10007
    · by_cases h3 : 0 ≤ y
      · by_cases h4 : y < 10007
        · obtain ⟨a, rfl⟩ := Int.eq_ofNat_of_zero_le h1
          obtain ⟨b, rfl⟩ := Int.eq_ofNat_of_zero_le h3
          have hx : a < 10007 := by omega
          have hy : b < 10007 := by omega
          have hon : onB a b = false := by
            simpa [okI, h1, h2, h3, h4] using h
          clear h
          go_enter Tryz.func133, Tryz.ntmps133
          go_wp2_with (first | (go_at_call 140; go_in) | fail)
          refine (onCurve_any a b _ hx hy).mono ?_
          rintro e w1 ⟨rfl, hb⟩
          rw [hon]
          obtain ⟨hc, hf⟩ := bcell hb
          have hz : w.heap.size + 2 < w1.heap.size := by have := hb.size; simp at this; omega
          go_wp2
          refine bodyPost_ret (v := .tuple #[.agg #[.int .i64 0, .int .i64 0], .bool false]) (by simp [results, Tryz.results133, go_sem, hc]) rfl ⟨rfl, ?_⟩
          exact ((((((Below.refl _ _).alloc (Nat.le_refl _) _).alloc (by simp) _).alloc (by simp; omega) _).trans (hb.mono (by simp; omega))).setCell (by simp) _).setCell (by simp) _
        · clear h
          go_enter Tryz.func133, Tryz.ntmps133
          go_wp2_with (first | (go_at_call 140; go_in) | fail)
          exact bodyPost_ret (v := .tuple #[.agg #[.int .i64 0, .int .i64 0], .bool false]) (by simp [results, Tryz.results133, go_sem]) rfl ⟨rfl, ((Below.refl _ _).alloc (Nat.le_refl _) _).alloc (by simp) _⟩
      · clear h
        go_enter Tryz.func133, Tryz.ntmps133
        go_wp2_with (first | (go_at_call 140; go_in) | fail)
        exact bodyPost_ret (v := .tuple #[.agg #[.int .i64 0, .int .i64 0], .bool false]) (by simp [results, Tryz.results133, go_sem]) rfl ⟨rfl, ((Below.refl _ _).alloc (Nat.le_refl _) _).alloc (by simp) _⟩
    · clear h
      go_enter Tryz.func133, Tryz.ntmps133
      go_wp2_with (first | (go_at_call 140; go_in) | fail)
      exact bodyPost_ret (v := .tuple #[.agg #[.int .i64 0, .int .i64 0], .bool false]) (by simp [results, Tryz.results133, go_sem]) rfl ⟨rfl, ((Below.refl _ _).alloc (Nat.le_refl _) _).alloc (by simp) _⟩
  · clear h
    go_enter Tryz.func133, Tryz.ntmps133
    go_wp2_with (first | (go_at_call 140; go_in) | fail)
    exact bodyPost_ret (v := .tuple #[.agg #[.int .i64 0, .int .i64 0], .bool false]) (by simp [results, Tryz.results133, go_sem]) rfl ⟨rfl, ((Below.refl _ _).alloc (Nat.le_refl _) _).alloc (by simp) _⟩
end Go.Proofs.YtllajhieocploaaGreatDoor.Cv
