/-
  The functions of chapter 2 of the program at any int64: PointOk, Nought, Base, Added, Opposite. They make memory, and turn nothing that was.
-/
import Derived.Test.YtciikondckoboaaGreatDoorCurveC
namespace Go.Proofs.YtciikondckoboaaGreatDoor.Cv
open Go.ChangeShapes Go.WideShapes Go.ChangeAt Go.RowKit
open Cu
/-- A Point as a value. -/
abbrev pt (x y : Int) : Value := .agg #[.int .i64 x, .int .i64 y]
theorem Hid.mk' {p : Prop} (h : p) : Hid p := h
theorem spec_Nought (w : World) : Calls Tryz.prog 34 #[] w fun e w' => e = .returned (.agg #[.int .i64 0, .int .i64 1]) ∧ Below w.heap.size w w' := by
  go_enter Tryz.func34, Tryz.ntmps34
  go_wp2
  exact bodyPost_ret (v := .agg #[.int .i64 0, .int .i64 1]) (by simp [results, Tryz.results34, go_sem]) rfl ⟨rfl, (Below.refl _ _).alloc (Nat.le_refl _) _⟩
theorem impl_Base (w : World) : Calls Tryz.prog 95 #[] w fun e w' => e = .returned (.agg #[.int .i64 2791, .int .i64 6375]) ∧ Below w.heap.size w w' := by
  go_enter Tryz.func95, Tryz.ntmps95
  go_wp2
  exact bodyPost_ret (v := .agg #[.int .i64 2791, .int .i64 6375]) (by simp [results, Tryz.results95, go_sem]) rfl ⟨rfl, (Below.refl _ _).alloc (Nat.le_refl _) _⟩
theorem spec_Base (w : World) : Calls Tryz.prog 15 #[] w fun e w' => e = .returned (.agg #[.int .i64 2791, .int .i64 6375]) ∧ Below w.heap.size w w' := by
  go_enter Tryz.func15, Tryz.ntmps15
  go_wp2
  exact bodyPost_ret (v := .agg #[.int .i64 2791, .int .i64 6375]) (by simp [results, Tryz.results15, go_sem]) rfl ⟨rfl, (Below.refl _ _).alloc (Nat.le_refl _) _⟩
theorem impl_PointOk (x y : Int) (w : World) : Calls Tryz.prog 49 #[.agg #[.int .i64 x, .int .i64 y]] w fun e w' => e = .returned (.bool (okI x y)) ∧ Below w.heap.size w w' := by
  by_cases h : okI x y = true
  · rw [h]
    obtain ⟨a, b, rfl, rfl, hk⟩ := okI_nat h
    clear h
    have HK : Hid (okN (a, b) = true) := hk
    clear hk
    go_enter Tryz.func49, Tryz.ntmps49
    go_wp2_with (fail)
    refine (spotOf_yes a b _ HK.out).mono ?_
    rintro e w1 ⟨rfl, hb⟩
    go_wp2
    go_ret
    exact ⟨rfl, (((Below.refl _ _).alloc (Nat.le_refl _) _).trans (hb.mono (B' := w.heap.size) (by simp))).alloc (by have := hb.size; simp at this; omega) _⟩
  · have h' : okI x y = false := by simpa using h
    rw [h']
    have HK : Hid (okI x y = false) := h'
    clear h h'
    go_enter Tryz.func49, Tryz.ntmps49
    go_wp2_with (fail)
    refine (spotOf_no x y _ HK.out).mono ?_
    rintro e w1 ⟨rfl, hb⟩
    go_wp2
    go_ret
    exact ⟨rfl, (((Below.refl _ _).alloc (Nat.le_refl _) _).trans (hb.mono (B' := w.heap.size) (by simp))).alloc (by have := hb.size; simp at this; omega) _⟩
def sx (x y : Int) : Int := if okI x y then x else 0
def sy (x y : Int) : Int := if okI x y then y else 0
theorem spotOf_all (x y : Int) (w : World) :
    Calls Tryz.prog 71 #[.agg #[.int .i64 x, .int .i64 y]] w fun e w' => e = .returned (.tuple #[.agg #[.int .i64 (sx x y), .int .i64 (sy x y)], .bool (okI x y)]) ∧ Below w.heap.size w w' := by
  unfold sx sy
  by_cases h : okI x y = true
  · rw [if_pos h, if_pos h, h]
    obtain ⟨a, b, rfl, rfl, hk⟩ := okI_nat h
    exact spotOf_yes a b w hk
  · have h' : okI x y = false := by simpa using h
    rw [if_neg h, if_neg h, h']
    exact spotOf_no x y w h'
set_option maxHeartbeats 2000000 in
theorem impl_Added_yes (a b p q : Nat) (w : World) (h : okN (a, b) = true) (k : okN (p, q) = true) : Calls Tryz.prog 77 #[.agg #[.int .i64 a, .int .i64 b], .agg #[.int .i64 p, .int .i64 q]] w fun e w' => e = .returned (.tuple #[.agg #[.int .i64 (adN (a, b) (p, q)).1, .int .i64 (adN (a, b) (p, q)).2], .bool true]) ∧ Below w.heap.size w w' := by
  have HK : Hid (okN (a, b) = true) := h
  have KK : Hid (okN (p, q) = true) := k
  clear h k
  go_enter Tryz.func77, Tryz.ntmps77
  go_wp2_with (fail)
  refine (spotOf_yes a b _ HK.out).mono ?_
  rintro e w1 ⟨rfl, hb1⟩
  obtain ⟨hc1, hf1⟩ := bcell hb1
  have hz1 : w.heap.size + 1 + 1 < w1.heap.size := by have := hb1.size; simp at this; omega
  have hz2 : w.heap.size + 1 < w1.heap.size := by omega
  go_wp2_with (fail)
  refine (spotOf_yes p q _ KK.out).mono ?_
  rintro e w2 ⟨rfl, hb2⟩
  obtain ⟨hc2, hf2⟩ := bcell hb2
  have hz3 : w1.heap.size < w2.heap.size := by have := hb2.size; simp at this; omega
  have hz4 : w.heap.size + 1 + 1 < w2.heap.size := by omega
  have hz5 : w.heap.size + 1 + 1 < w1.heap.size + 1 := by omega
  have hz6 : w1.heap.size < w2.heap.size + 1 := by omega
  have hz7 : w.heap.size + 1 + 1 < w2.heap.size + 1 := by omega
  go_wp2_with (fail)
  refine (plus_any a b p q _ (ok_el HK.out).1 (ok_el HK.out).2 (ok_el KK.out).1 (ok_el KK.out).2).mono ?_
  rintro e w3 ⟨rfl, hb3⟩
  obtain ⟨hc3, hf3⟩ := bcell hb3
  have hz8 : w2.heap.size < w3.heap.size := by have := hb3.size; simp at this; omega
  have hz9 : w.heap.size + 1 + 1 < w3.heap.size := by omega
  go_wp2_with (fail)
  refine (point_any _ _ _).mono ?_
  rintro e w4 ⟨rfl, hb4⟩
  obtain ⟨hc4, hf4⟩ := bcell hb4
  have hz10 : w.heap.size + 1 + 1 < w4.heap.size := by have := hb4.size; omega
  go_wp2
  refine bodyPost_ret (v := .tuple #[.agg #[.int .i64 (adN (a, b) (p, q)).1, .int .i64 (adN (a, b) (p, q)).2], .bool true]) (by simp [results, Tryz.results77, go_sem, *]) rfl ⟨rfl, ?_⟩
  have b1 := (((Below.refl w.heap.size w).alloc (Nat.le_refl _) _).alloc (by simp) _).alloc (by simp; omega) _ |>.trans (hb1.mono (B' := w.heap.size) (by simp; omega))
  have b2 := (b1.alloc (by omega) _).trans (hb2.mono (B' := w.heap.size) (by simp; omega))
  have b3 := (b2.alloc (by omega) _).trans (hb3.mono (B' := w.heap.size) (by simp; omega))
  exact ((b3.trans (hb4.mono (B' := w.heap.size) (by omega))).setCell (by simp; omega) _).setCell (by simp; omega) _
set_option maxHeartbeats 2000000 in
theorem impl_Added_no (x y p q : Int) (w : World) (h : (okI x y && okI p q) = false) : Calls Tryz.prog 77 #[.agg #[.int .i64 x, .int .i64 y], .agg #[.int .i64 p, .int .i64 q]] w fun e w' => e = .returned (.tuple #[.agg #[.int .i64 0, .int .i64 0], .bool false]) ∧ Below w.heap.size w w' := by
  have c1 := spotOf_all x y
  have c2 := spotOf_all p q
  have hcase : okI x y = false ∨ okI x y = true ∧ okI p q = false := by
    revert h; cases okI x y <;> cases okI p q <;> simp
  clear h
  rcases hcase with h1 | ⟨h1, h2⟩
  · rw [h1] at c1
    have C1 := Hid.mk' c1
    have C2 := Hid.mk' c2
    clear c1 c2 h1
    generalize okI p q = f2 at C2
    go_enter Tryz.func77, Tryz.ntmps77
    go_wp2_with (fail)
    refine (C1.out _).mono ?_
    rintro e w1 ⟨rfl, hb1⟩
    obtain ⟨hc1, hf1⟩ := bcell hb1
    have hz1 : w.heap.size + 1 + 1 < w1.heap.size := by have := hb1.size; simp at this; omega
    have hz2 : w.heap.size + 1 < w1.heap.size := by omega
    go_wp2_with (fail)
    refine (C2.out _).mono ?_
    rintro e w2 ⟨rfl, hb2⟩
    obtain ⟨hc2, hf2⟩ := bcell hb2
    have hz3 : w1.heap.size < w2.heap.size := by have := hb2.size; simp at this; omega
    have hz4 : w.heap.size + 1 + 1 < w2.heap.size := by omega
    have hz5 : w.heap.size + 1 + 1 < w1.heap.size + 1 := by omega
    have hz7 : w.heap.size + 1 + 1 < w2.heap.size + 1 := by omega
    go_wp2
    refine bodyPost_ret (v := .tuple #[.agg #[.int .i64 0, .int .i64 0], .bool false]) (by simp [results, Tryz.results77, go_sem, *]) rfl ⟨rfl, ?_⟩
    have b1 := (((Below.refl w.heap.size w).alloc (Nat.le_refl _) _).alloc (by simp) _).alloc (by simp; omega) _ |>.trans (hb1.mono (B' := w.heap.size) (by simp; omega))
    have b2 := (b1.alloc (by omega) _).trans (hb2.mono (B' := w.heap.size) (by simp; omega))
    exact ((b2.setCell (by simp; omega) _).setCell (by simp; omega) _).alloc (by simp; omega) _
  · rw [h1] at c1
    rw [h2] at c2
    have C1 := Hid.mk' c1
    have C2 := Hid.mk' c2
    clear c1 c2 h1 h2
    go_enter Tryz.func77, Tryz.ntmps77
    go_wp2_with (fail)
    refine (C1.out _).mono ?_
    rintro e w1 ⟨rfl, hb1⟩
    obtain ⟨hc1, hf1⟩ := bcell hb1
    have hz1 : w.heap.size + 1 + 1 < w1.heap.size := by have := hb1.size; simp at this; omega
    have hz2 : w.heap.size + 1 < w1.heap.size := by omega
    go_wp2_with (fail)
    refine (C2.out _).mono ?_
    rintro e w2 ⟨rfl, hb2⟩
    obtain ⟨hc2, hf2⟩ := bcell hb2
    have hz3 : w1.heap.size < w2.heap.size := by have := hb2.size; simp at this; omega
    have hz4 : w.heap.size + 1 + 1 < w2.heap.size := by omega
    have hz5 : w.heap.size + 1 + 1 < w1.heap.size + 1 := by omega
    have hz7 : w.heap.size + 1 + 1 < w2.heap.size + 1 := by omega
    go_wp2
    refine bodyPost_ret (v := .tuple #[.agg #[.int .i64 0, .int .i64 0], .bool false]) (by simp [results, Tryz.results77, go_sem, *]) rfl ⟨rfl, ?_⟩
    have b1 := (((Below.refl w.heap.size w).alloc (Nat.le_refl _) _).alloc (by simp) _).alloc (by simp; omega) _ |>.trans (hb1.mono (B' := w.heap.size) (by simp; omega))
    have b2 := (b1.alloc (by omega) _).trans (hb2.mono (B' := w.heap.size) (by simp; omega))
    exact ((b2.setCell (by simp; omega) _).setCell (by simp; omega) _).alloc (by simp; omega) _
end Go.Proofs.YtciikondckoboaaGreatDoor.Cv
