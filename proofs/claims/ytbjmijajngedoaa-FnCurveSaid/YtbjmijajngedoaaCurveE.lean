/-
  DrawAdded: some two Points of two int64; it turns nothing that was.
-/
import Derived.Test.YtbjmijajngedoaaCurveD
import Derived.Test.YtbjmijajngedoaaLawD
import Derived.Deep.RegionWith
namespace Go.Proofs.Ytbjmijajngedoaa.Cv
open Go.ChangeShapes Go.WideShapes Go.ChangeAt Go.RowKit
open Cu Dr
theorem Tw.far {w : World} {b c i : Nat} {v : Value} {x y : Int} (h : Tw w b x y) (hc : ¬ b = c) : Tw (w.setCell ⟨c, i, none⟩ v) b x y :=
  ⟨by simpa [World.setCell] using h.lt, by rw [cell_set_far (fun e => hc e.symm)]; exact h.c0, by rw [cell_set_far (fun e => hc e.symm)]; exact h.c1⟩
theorem ret_via2 {fn : Func} {tm : Array Value} {wf : World} {b c : Nat} {x y p q : Int} {v : Value} (t : Tw wf b x y) (s : Tw wf c p q) (h : ∀ w2, Tw w2 b x y → Tw w2 c p q → (results fn tm).run Try.prog w2 = .ok v w2) : (results fn tm).run Try.prog wf = .ok v wf := h wf t s
set_option maxRecDepth 100000 in
set_option maxHeartbeats 4000000 in
theorem DrawAdded_any (a : Option Addr) (len cap : Nat) (w : World) (hc : Dr.Code w.heap.size w a len) (hl : len ≤ 4096) :
    Calls Try.prog 7 #[.slice a len cap] w fun e w' => ∃ x y p q : Int, e = .returned (.tuple #[.agg #[.int .i64 x, .int .i64 y], .agg #[.int .i64 p, .int .i64 q]]) ∧ Below w.heap.size w w' := by
  have HC : Hid (Dr.Code w.heap.size w a len) := hc
  clear hc
  go_enter Try.func7, Try.ntmps7
  go_wp2_with (fail)
  refine (l1New_any _ a len cap _ (Nat.le_refl _) (code_old (code_old HC.out)) hl).mono ?_
  rintro e w1 ⟨c, rfl, hC1, hb1⟩
  have hcs : w.heap.size + 1 < c := by have := hC1.here; simp at this; omega
  have z1 : w.heap.size + 1 < w1.heap.size := by have := hb1.size; simp at this; omega
  have HR1 := Hid.mk' (((Two.newAt (w := w) (x := 0) (y := 0) rfl).alloc _).kept hb1 (by simp; omega))
  have HS1 := Hid.mk' ((Two.newAt (x := 0) (y := 0) (by simp)).kept (b := w.heap.size + 1) hb1 (by simp))
  have HC1 := Hid.mk' hC1
  have HB1 := Hid.mk' (below_next (below_old (below_old (Below.refl w.heap.size w))) hb1)
  clear hC1 hb1
  go_wp2_with (fail)
  refine (l2Draw_any _ c a len cap _ HC1.out).mono ?_
  rintro e w2 ⟨x, y, rfl, hC2, hO2⟩
  have z2 : w.heap.size + 1 < w2.heap.size := by have := hO2.size; omega
  have HR2 := Hid.mk' (HR1.out.only hO2 (by omega))
  have HS2 := Hid.mk' (HS1.out.only hO2 (by omega))
  have hC2l := hC2.lt
  have HC2 := Hid.mk' (hC2.kept ((Below.refl (c + 1) w2).alloc (by omega) (.cells #[.int .i64 x, .int .i64 y] 25)))
  have HB2 := Hid.mk' (HB1.out.trans (hO2.below (B := w.heap.size) (by omega) (by omega)))
  clear hC2 hO2 HR1 HS1 HC1 HB1
  go_wp2_with (fail)
  go_region_with (go_at_call 27; refine (l2Draw_any _ c a len cap _ (HC2.out.kept (Below.drew (Below.refl _ _)))).mono ?_; rintro e w3 ⟨p, q, rfl, hC3, hO3⟩; have z3 : w2.heap.size < w3.heap.size := (by have := hO3.size; simp at this; omega); have z4 : w.heap.size + 1 < w3.heap.size := (by omega); have z5 : w.heap.size < w3.heap.size := (by omega); have t5 := Hid.mk' (Two.only ((HR2.out.alloc (.cells #[.int .i64 x, .int .i64 y] 25)).drew) hO3 (by omega)); have t6 := Hid.mk' (Two.only ((HS2.out.alloc (.cells #[.int .i64 x, .int .i64 y] 25)).drew) hO3 (by omega)); have r0 := t5.out.c0; have r1 := t5.out.c1; have r2 := t5.out.f0; have r3 := t5.out.f1; have s0 := t6.out.c0; have s1 := t6.out.c1; have s2 := t6.out.f0; have s3 := t6.out.f1; dsimp only at r0 r1 s0 s1; have d0 := hO3.cell (p := ⟨w2.heap.size, 0, none⟩) (by simp) (by simp; omega); have d1 := hO3.cell (p := ⟨w2.heap.size, 1, none⟩) (by simp) (by simp; omega); simp at d0 d1)
  all_goals
    go_wp2_with fail
    have B3 := HB2.out.alloc (o := .cells #[.int .i64 x, .int .i64 y] 25) (by omega)
    have B4 := (Below.drew B3).trans (hO3.below (B := w.heap.size) (by omega) (by simp; omega))
    have u1 := Tw.far (c := w.heap.size + 1) (i := 1) (v := .int .i64 q) (Tw.far (c := w.heap.size + 1) (i := 0) (v := .int .i64 p) (Tw.put (x := x) (y := y) z5 r0 r1) (by omega)) (by omega)
    have u2 := Tw.put (x := p) (y := q) (w := (w3.setCell ⟨w.heap.size, 0, none⟩ (.int .i64 x)).setCell ⟨w.heap.size, 1, none⟩ (.int .i64 y)) (b := w.heap.size + 1) (by simp [World.setCell]; omega) (by rw [cell_set_far (by omega), cell_set_far (by omega)]; exact s0) (by rw [cell_set_far (by omega), cell_set_far (by omega)]; exact s1)
    refine bodyPost_ret (v := .tuple #[.agg #[.int .i64 x, .int .i64 y], .agg #[.int .i64 p, .int .i64 q]]) ?_ rfl ⟨x, y, p, q, rfl, (((B4.setCell (by simp) _).setCell (by simp) _).setCell (by simp) _).setCell (by simp) _⟩
    refine ret_via2 u1 u2 (fun w9 k j => ?_)
    have k0 := k.c0
    have k1 := k.c1
    have j0 := j.c0
    have j1 := j.c1
    clear k j u1 u2 r0 r1 r2 r3 s0 s1 s2 s3 d0 d1
    simp [results, Try.results7, go_sem, k0, k1, j0, j1]
end Go.Proofs.Ytbjmijajngedoaa.Cv
