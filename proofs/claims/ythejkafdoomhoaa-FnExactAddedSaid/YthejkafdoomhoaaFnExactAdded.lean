/-
  FnExactAdded answers true at every two Points and leaves them as they were: Added of the program answers as the specification's. No condition.
-/
import Derived.Test.YthejkafdoomhoaaRows
import Derived.WalkKit
import Derived.ProofKit
import Derived.OpenShut
import Derived.ShutString
import Derived.ChangeOld
import Derived.Below
import Derived.Lib.SmallJoins
import Derived.Test.YthejkafdoomhoaaLawC2
import Derived.Test.YthejkafdoomhoaaCurveV
import Derived.Deep.RegionHeld3
import Derived.Deep.Cut
import Derived.Deep.CutRange
namespace Go.Proofs.Ythejkafdoomhoaa.fnExactAdded
open Go.ChangeShapes Go.WideShapes Go.ChangeAt Go.RowKit Go.Joins
set_option linter.unusedVariables false

theorem own : ownKnob Try.prog.godebug = none := by kernel_rfl
theorem laidOut : laidOutB Try.prog = true := by kernel_rfl
theorem cells38 : Try.prog.cellsOf 38 = 2 := by kernel_rfl
open Cv Cu
/-- Both answer alike: the sum, or the zero Point and false. -/
theorem added_both (x y p q : Int) : ∃ (u v : Int) (f : Bool), (∀ w, Calls Try.prog 14 #[.agg #[.int .i64 x, .int .i64 y], .agg #[.int .i64 p, .int .i64 q]] w fun e w' => e = .returned (.tuple #[.agg #[.int .i64 u, .int .i64 v], .bool f]) ∧ Below w.heap.size w w') ∧ (∀ w, Calls Try.prog 11 #[.agg #[.int .i64 x, .int .i64 y], .agg #[.int .i64 p, .int .i64 q]] w fun e w' => e = .returned (.tuple #[.agg #[.int .i64 u, .int .i64 v], .bool f]) ∧ Below w.heap.size w w') := by
  by_cases h : (okI x y && okI p q) = true
  · rw [Bool.and_eq_true] at h
    obtain ⟨a, b, rfl, rfl, h1⟩ := okI_nat h.1
    obtain ⟨c, d, rfl, rfl, h2⟩ := okI_nat h.2
    exact ⟨_, _, _, fun w => spec_Added_yes a b c d w h1 h2, fun w => impl_Added_yes a b c d w h1 h2⟩
  · have h' : (okI x y && okI p q) = false := by simpa using h
    exact ⟨0, 0, false, fun w => spec_Added_no x y p q w h', fun w => impl_Added_no x y p q w h'⟩
set_option maxHeartbeats 4000000 in

theorem walk (x0 y0 x1 y1 : Int) (w : World) :
    Calls Try.prog 8 #[.agg #[.int .i64 x0, .int .i64 y0], .agg #[.int .i64 x1, .int .i64 y1]] w fun e w' => e = .returned (.bool true) ∧ Below w.heap.size w w' := by
  obtain ⟨u, v, f, c1, c2⟩ := added_both x0 y0 x1 y1
  have C1 := Hid.mk' c1
  have C2 := Hid.mk' c2
  clear c1 c2
  have hff : (f != f) = false := by simp
  have hs0 : w.heap.size < w.heap.size + 1 + 1 := by omega
  have hs1 : w.heap.size < w.heap.size + 1 + 1 + 1 := by omega
  have hs3 : ¬ w.heap.size = w.heap.size + 1 + 1 := by omega
  have hs4 : ¬ w.heap.size + 1 = w.heap.size + 1 + 1 := by omega
  have hs2 : w.heap.size + 1 < w.heap.size + 1 + 1 + 1 := by omega
  go_enter Try.func8, Try.ntmps8
  go_upto_region 1 with fail
  go_cut [5, 6] from 9 to 33 (fun s5 s6 wx => ∃ tb : Nat, s5 = .pointer (some ⟨tb, 0, none⟩) ∧ s6 = .bool f ∧ Tw wx tb u v ∧ Below (w.heap.size + 1 + 1) ((w.alloc (.cells #[.int .i64 x0, .int .i64 y0] 38)).alloc (.cells #[.int .i64 x1, .int .i64 y1] 38)) wx)
  case first =>
    go_region_held3 (fun w' => w'.cell? ⟨w.heap.size, 0, none⟩ = some (.int .i64 x0) ∧ w'.cell? ⟨w.heap.size, 1, none⟩ = some (.int .i64 y0) ∧ w'.cell? ⟨w.heap.size + 1, 0, none⟩ = some (.int .i64 x1) ∧ w'.cell? ⟨w.heap.size + 1, 1, none⟩ = some (.int .i64 y1)) (first | (with_reducible refine held_far (by assumption) ?_ ?_ <;> omega) | go_keep)
      (first
        | (go_at_call 26; with_reducible refine (toPoint_any x0 y0 _).mono ?_; rintro e wA ⟨rfl, hbA⟩; obtain ⟨hcA, hfA⟩ := bcell hbA; have zA0 : w.heap.size < wA.heap.size := (by have := hbA.size; (try simp at this); omega); have zA1 : w.heap.size + 1 < wA.heap.size := (by have := hbA.size; (try simp at this); omega); have nA0 : ¬ w.heap.size = wA.heap.size := (by omega); have nA1 : ¬ w.heap.size + 1 = wA.heap.size := (by omega); have zA3 : w.heap.size < wA.heap.size + 1 := (by omega); have zA4 : w.heap.size + 1 < wA.heap.size + 1 := (by omega); (try have zA2 : w.heap.size + 1 + 1 < wA.heap.size := (by have := hbA.size; (try simp at this); omega)))
        | (go_at_call 26; with_reducible refine (toPoint_any x1 y1 _).mono ?_; rintro e wB ⟨rfl, hbB⟩; obtain ⟨hcB, hfB⟩ := bcell hbB; have zB0 : w.heap.size < wB.heap.size := (by have := hbB.size; (try simp at this); omega); have zB1 : w.heap.size + 1 < wB.heap.size := (by have := hbB.size; (try simp at this); omega); have nB0 : ¬ w.heap.size = wB.heap.size := (by omega); have nB1 : ¬ w.heap.size + 1 = wB.heap.size := (by omega); have zB3 : w.heap.size < wB.heap.size + 1 := (by omega); have zB4 : w.heap.size + 1 < wB.heap.size + 1 := (by omega); (try have zB2 : w.heap.size + 1 + 1 < wB.heap.size := (by have := hbB.size; (try simp at this); omega)); (try have zB5 : wA.heap.size < wB.heap.size := (by have := hbB.size; (try simp at this); omega)))
        | (go_at_call 14; refine (C1.out _).mono ?_; rintro e wC ⟨rfl, hbC⟩; obtain ⟨hcC, hfC⟩ := bcell hbC; have zC0 : w.heap.size < wC.heap.size := (by have := hbC.size; (try simp at this); omega); have zC1 : w.heap.size + 1 < wC.heap.size := (by have := hbC.size; (try simp at this); omega); have nC0 : ¬ w.heap.size = wC.heap.size := (by omega); have nC1 : ¬ w.heap.size + 1 = wC.heap.size := (by omega); have zC3 : w.heap.size < wC.heap.size + 1 := (by omega); have zC4 : w.heap.size + 1 < wC.heap.size + 1 := (by omega); (try have zC2 : w.heap.size + 1 + 1 < wC.heap.size := (by have := hbC.size; (try simp at this); omega)); (try have zC5 : wA.heap.size < wC.heap.size := (by have := hbC.size; (try simp at this); omega)); (try have zC6 : wB.heap.size < wC.heap.size := (by have := hbC.size; (try simp at this); omega))))
    all_goals
      go_wp2_with fail
      go_meet
      have bA : Below (w.heap.size + 1 + 1) ((w.alloc (.cells #[.int .i64 x0, .int .i64 y0] 38)).alloc (.cells #[.int .i64 x1, .int .i64 y1] 38)) wA := by
        first
          | exact (Below.refl (w.heap.size + 1 + 1) ((w.alloc (.cells #[.int .i64 x0, .int .i64 y0] 38)).alloc (.cells #[.int .i64 x1, .int .i64 y1] 38))).drew.trans (hbA.mono (B' := (w.heap.size + 1 + 1)) (by (try simp); (try omega)))
          | exact ((Below.refl (w.heap.size + 1 + 1) ((w.alloc (.cells #[.int .i64 x0, .int .i64 y0] 38)).alloc (.cells #[.int .i64 x1, .int .i64 y1] 38))).drew.alloc (by (try simp); (try omega)) _).trans (hbA.mono (B' := (w.heap.size + 1 + 1)) (by (try simp); (try omega)))
          | exact ((Below.refl (w.heap.size + 1 + 1) ((w.alloc (.cells #[.int .i64 x0, .int .i64 y0] 38)).alloc (.cells #[.int .i64 x1, .int .i64 y1] 38))).alloc (by (try simp); (try omega)) _).drew.trans (hbA.mono (B' := (w.heap.size + 1 + 1)) (by (try simp); (try omega)))
      have sA := bA.size
      have bB : Below (w.heap.size + 1 + 1) ((w.alloc (.cells #[.int .i64 x0, .int .i64 y0] 38)).alloc (.cells #[.int .i64 x1, .int .i64 y1] 38)) wB := by
        first
          | exact bA.trans (hbB.mono (B' := (w.heap.size + 1 + 1)) (by (try simp at sA); (try simp); (try omega)))
          | exact (bA.alloc (by (try simp at sA); omega) _).trans (hbB.mono (B' := (w.heap.size + 1 + 1)) (by (try simp at sA); simp; omega))
      have sB := bB.size
      have bC : Below (w.heap.size + 1 + 1) ((w.alloc (.cells #[.int .i64 x0, .int .i64 y0] 38)).alloc (.cells #[.int .i64 x1, .int .i64 y1] 38)) wC := by
        first
          | exact bB.trans (hbC.mono (B' := (w.heap.size + 1 + 1)) (by (try simp at sB); (try simp); (try omega)))
          | exact (bB.alloc (by (try simp at sB); omega) _).trans (hbC.mono (B' := (w.heap.size + 1 + 1)) (by (try simp at sB); simp; omega))
      have sC := bC.size
      (try simp at sA sB sC)
      first
        | exact ⟨_, rfl, rfl, Tw.newAt rfl, bC.alloc (by omega) _⟩
        | exact ⟨_, rfl, rfl, Tw.put (v0 := .int .i64 0) (v1 := .int .i64 0) (by omega) (by first | (simp [*]; done) | (simp [*]; exact (Tw.newAt (by simp)).c0)) (by first | (simp [*]; done) | (simp [*]; exact (Tw.newAt (by simp)).c1)), (bC.setCell (by (try simp); (try omega)) _).setCell (by (try simp); (try omega)) _⟩
  case rest =>
    obtain ⟨tb, rfl, rfl, hT, hB⟩ := hcut
    have HT := Hid.mk' hT
    have HB := Hid.mk' hB
    have hA0 : Tw wc w.heap.size x0 y0 := by
      refine Tw.kept (B := w.heap.size + 1 + 1) ?_ hB (by omega)
      exact (Tw.newAt rfl).kept ((Below.refl (w.heap.size + 1) _).alloc (by simp) _) (by omega)
    have hA1 : Tw wc (w.heap.size + 1) x1 y1 := by
      refine Tw.kept (B := w.heap.size + 1 + 1) ?_ hB (by omega)
      exact Tw.newAt (by simp)
    have a0 := hA0.c0
    have a1 := hA0.c1
    have a2 := hA1.c0
    have a3 := hA1.c1
    have a4 := hA1.lt
    have a5 := hA0.lt
    have a6 : w.heap.size < wc.heap.size + 1 := by omega
    have a7 : w.heap.size + 1 < wc.heap.size + 1 := by omega
    have a8 : ¬ w.heap.size = wc.heap.size := by omega
    have a9 : ¬ w.heap.size + 1 = wc.heap.size := by omega
    clear hA0 hA1 hT hB
    go_upto_region 2 with fail
    go_cut [7, 8] from 9 to 33 (fun s5 s6 wx => ∃ tb : Nat, s5 = .pointer (some ⟨tb, 0, none⟩) ∧ s6 = .bool f ∧ Tw wx tb u v ∧ Below wc.heap.size wc wx)
    case first =>
      go_region_held3 (fun w' => w'.cell? ⟨w.heap.size, 0, none⟩ = some (.int .i64 x0) ∧ w'.cell? ⟨w.heap.size, 1, none⟩ = some (.int .i64 y0) ∧ w'.cell? ⟨w.heap.size + 1, 0, none⟩ = some (.int .i64 x1) ∧ w'.cell? ⟨w.heap.size + 1, 1, none⟩ = some (.int .i64 y1)) (first | (with_reducible refine held_far (by assumption) ?_ ?_ <;> omega) | (with_reducible refine held_kept (by assumption) (by assumption) ?_; omega) | (with_reducible refine held_kept_drew (by assumption) (by assumption) ?_; omega) | (with_reducible refine held_kept_drew (by assumption) ⟨a0, a1, a2, a3⟩ ?_; omega) | (with_reducible refine held_kept (by assumption) ⟨a0, a1, a2, a3⟩ ?_; omega) | (with_reducible refine held_alloc (by assumption) ?_; omega) | (with_reducible refine held_alloc ⟨a0, a1, a2, a3⟩ ?_; omega) | (with_reducible refine held_realloc (by assumption) ?_; omega) | go_keep)
        (first
          | (go_at_call 26; with_reducible refine (toPoint_any x0 y0 _).mono ?_; rintro e wA ⟨rfl, hbA⟩; obtain ⟨hcA, hfA⟩ := bcell hbA; have zA0 : w.heap.size < wA.heap.size := (by have := hbA.size; (try simp at this); omega); have zA1 : w.heap.size + 1 < wA.heap.size := (by have := hbA.size; (try simp at this); omega); have nA0 : ¬ w.heap.size = wA.heap.size := (by omega); have nA1 : ¬ w.heap.size + 1 = wA.heap.size := (by omega); have zA3 : w.heap.size < wA.heap.size + 1 := (by omega); have zA4 : w.heap.size + 1 < wA.heap.size + 1 := (by omega); (try have zA2 : wc.heap.size < wA.heap.size := (by have := hbA.size; (try simp at this); omega)))
          | (go_at_call 26; with_reducible refine (toPoint_any x1 y1 _).mono ?_; rintro e wB ⟨rfl, hbB⟩; obtain ⟨hcB, hfB⟩ := bcell hbB; have zB0 : w.heap.size < wB.heap.size := (by have := hbB.size; (try simp at this); omega); have zB1 : w.heap.size + 1 < wB.heap.size := (by have := hbB.size; (try simp at this); omega); have nB0 : ¬ w.heap.size = wB.heap.size := (by omega); have nB1 : ¬ w.heap.size + 1 = wB.heap.size := (by omega); have zB3 : w.heap.size < wB.heap.size + 1 := (by omega); have zB4 : w.heap.size + 1 < wB.heap.size + 1 := (by omega); (try have zB2 : wc.heap.size < wB.heap.size := (by have := hbB.size; (try simp at this); omega)); (try have zB5 : wA.heap.size < wB.heap.size := (by have := hbB.size; (try simp at this); omega)))
          | (go_at_call 11; refine (C2.out _).mono ?_; rintro e wC ⟨rfl, hbC⟩; obtain ⟨hcC, hfC⟩ := bcell hbC; have zC0 : w.heap.size < wC.heap.size := (by have := hbC.size; (try simp at this); omega); have zC1 : w.heap.size + 1 < wC.heap.size := (by have := hbC.size; (try simp at this); omega); have nC0 : ¬ w.heap.size = wC.heap.size := (by omega); have nC1 : ¬ w.heap.size + 1 = wC.heap.size := (by omega); have zC3 : w.heap.size < wC.heap.size + 1 := (by omega); have zC4 : w.heap.size + 1 < wC.heap.size + 1 := (by omega); (try have zC2 : wc.heap.size < wC.heap.size := (by have := hbC.size; (try simp at this); omega)); (try have zC5 : wA.heap.size < wC.heap.size := (by have := hbC.size; (try simp at this); omega)); (try have zC6 : wB.heap.size < wC.heap.size := (by have := hbC.size; (try simp at this); omega))))
      all_goals
        go_wp2_with fail
        go_meet
        have bA : Below wc.heap.size wc wA := by
          first
            | exact (Below.refl wc.heap.size wc).drew.trans (hbA.mono (B' := wc.heap.size) (by (try simp); (try omega)))
            | exact ((Below.refl wc.heap.size wc).drew.alloc (by (try simp); (try omega)) _).trans (hbA.mono (B' := wc.heap.size) (by (try simp); (try omega)))
            | exact ((Below.refl wc.heap.size wc).alloc (by (try simp); (try omega)) _).drew.trans (hbA.mono (B' := wc.heap.size) (by (try simp); (try omega)))
        have sA := bA.size
        have bB : Below wc.heap.size wc wB := by
          first
            | exact bA.trans (hbB.mono (B' := wc.heap.size) (by (try simp at sA); (try simp); (try omega)))
            | exact (bA.alloc (by (try simp at sA); omega) _).trans (hbB.mono (B' := wc.heap.size) (by (try simp at sA); simp; omega))
        have sB := bB.size
        have bC : Below wc.heap.size wc wC := by
          first
            | exact bB.trans (hbC.mono (B' := wc.heap.size) (by (try simp at sB); (try simp); (try omega)))
            | exact (bB.alloc (by (try simp at sB); omega) _).trans (hbC.mono (B' := wc.heap.size) (by (try simp at sB); simp; omega))
        have sC := bC.size
        (try simp at sA sB sC)
        first
          | exact ⟨_, rfl, rfl, Tw.newAt rfl, bC.alloc (by omega) _⟩
          | exact ⟨_, rfl, rfl, Tw.put (v0 := .int .i64 0) (v1 := .int .i64 0) (by omega) (by first | (simp [*]; done) | (simp [*]; exact (Tw.newAt (by simp)).c0)) (by first | (simp [*]; done) | (simp [*]; exact (Tw.newAt (by simp)).c1)), (bC.setCell (by (try simp); (try omega)) _).setCell (by (try simp); (try omega)) _⟩
    case rest =>
      obtain ⟨tc, rfl, rfl, hT2, hB2⟩ := hcut
      have hT1 := HT.out.kept hB2 HT.out.lt
      have t0 := hT1.c0
      have t1 := hT1.c1
      have t2 := hT2.c0
      have t3 := hT2.c1
      have HB2 := Hid.mk' hB2
      clear hT1 hT2 hB2
      go_wp2_with (fail)
      refine (eqPoint_same _ _ _).mono ?_
      rintro e wE ⟨rfl, hbE⟩
      go_wp2_with (fail)
      go_ret
      have b0 := (((Below.refl w.heap.size w).alloc (Nat.le_refl _) (.cells #[.int .i64 x0, .int .i64 y0] 38)).alloc (by simp) (.cells #[.int .i64 x1, .int .i64 y1] 38)).trans (HB.out.mono (B' := w.heap.size) (by omega))
      have s1 := HB2.out.size
      exact ⟨rfl, (b0.trans (HB2.out.mono (B' := w.heap.size) (by omega))).trans (hbE.mono (B' := w.heap.size) (by omega))⟩

set_option maxRecDepth 100000 in
theorem lifted (os : Os) (started : os.Started) (H : Type) (enc : TypeId × Value → H) :
    ReturnsInHanded {} Try.checked os 8 .any (Rows.fnExactAddedSpec.pre6 enc Try.prog Try.f8 Rows.fnExactAddedRow.domain false) (Rows.fnExactAddedSpec.post enc Try.prog Try.f8 false true false false) := by
  refine returnsInHanded_of_change (C := Try.checked) own started (by kernel_rfl) Try.func8
    (ChangeSpec.witness6 (enc := enc) (C := Try.checked) false ⟨#[], #[.agg #[.int .i64 0, .int .i64 0], .agg #[.int .i64 0, .int .i64 0]], []⟩ 8 (by kernel_rfl) (by kernel_rfl) (by kernel_rfl) (by kernel_rfl)) ?_
  intro W base args ds gs before hval0 hW hcnd _
  have hval : ∀ (j : Nat) t v, Try.f8.params[j]? = some t → args[j]? = some v → Value.okWide Try.prog W .any base t v := hval0
  have hW' := hW
  obtain ⟨p, q, hA0, hV, rfl, hfz, hnd⟩ := hW
  have hA : DataW.TrodAll enc Try.prog W 0 (fun _ => true) true Try.f8.params.toList args.toList ds p := hA0
  rw [Try.params8] at hA hval
  obtain ⟨v0, vs0, d0, ds0, p0, q0, hargs, rfl, rfl, h0, r0⟩ := trodAll_cons hA
  obtain ⟨v1, vs1, d1, ds1, p1, q1, rfl, rfl, rfl, h1, r1⟩ := trodAll_cons r0
  obtain ⟨rfl, rfl, rfl⟩ := trodAll_nil r1
  obtain rfl : args = #[v0, v1] := by cases args; simp_all
  obtain ⟨rfl, rfl⟩ := trodVars_none hV
  have k0 := h0
  have lt0 : ∀ x ∈ p0, x.block < W.heap.size := by obtain ⟨m, hm⟩ := k0; exact DataW.trod_lt m _ _ _ hm
  have k1 := h1
  have lt1 : ∀ x ∈ p1, x.block < W.heap.size := by obtain ⟨m, hm⟩ := k1; exact DataW.trod_lt m _ _ _ hm
  obtain ⟨cx0, cy0, dx0, dy0, m0, rfl, rfl, rfl, hx0, hy0⟩ := open_agg2 Try.underlying38 (by kernel_rfl) cells38 (hval 0 38 v0 rfl rfl) h0
  obtain ⟨x0, ex0, rfl, wx0⟩ := DataW.trod_int Try.underlying2 hx0
  obtain ⟨y0, ey0, rfl, wy0⟩ := DataW.trod_int Try.underlying2 hy0
  simp at ex0 ey0
  subst ex0 ey0
  obtain ⟨cx1, cy1, dx1, dy1, m1, rfl, rfl, rfl, hx1, hy1⟩ := open_agg2 Try.underlying38 (by kernel_rfl) cells38 (hval 1 38 v1 rfl rfl) h1
  obtain ⟨x1, ex1, rfl, wx1⟩ := DataW.trod_int Try.underlying2 hx1
  obtain ⟨y1, ey1, rfl, wy1⟩ := DataW.trod_int Try.underlying2 hy1
  simp at ex1 ey1
  subst ex1 ey1
  clear hA0 hval0
  refine (walk x0 y0 x1 y1 W).mono fun e W' ⟨he, bel⟩ => ?_
  subst he
  exact ⟨_, rfl, _, _, _, [], _, [], hW', trodAll_mk1 (shut_bool Try.underlying4 _), (trodAll_cons_mk (Below.trod laidOut (by kernel_rfl) (of_decide_eq_true (by kernel_rfl)) k0 bel lt0) (trodAll_cons_mk (Below.trod laidOut (by kernel_rfl) (of_decide_eq_true (by kernel_rfl)) k1 bel lt1) trodAll_mk0)), rfl, bel.frame _, fun h => by cases h⟩

theorem over : Rows.fnExactAddedRow.holds Try.pinned (OpenSpec.ofChange Rows.fnExactAddedSpec) :=
  OpenClaim.holds_of_wide 8 Try.f8 rfl rfl rfl rfl rfl rfl rfl ⟨rfl, rfl, rfl, rfl, rfl⟩ rfl rfl rfl rfl rfl (by kernel_rfl) Try.func8 (by kernel_rfl)
    (of_decide_eq_true (by kernel_rfl)) (by unfold Func.isWrapper; first | (rw [if_pos (by decide +kernel)]; kernel_rfl) | (rw [if_neg (by decide +kernel)]; exact ⟨rfl, rfl⟩))
    (fun os started H enc _ => lifted os started H enc)
end Go.Proofs.Ythejkafdoomhoaa.fnExactAdded
namespace Go.Proofs.Ythejkafdoomhoaa
theorem fnExactAdded_holds : Rows.FnExactAddedSaid := fnExactAdded.over
#print axioms fnExactAdded_holds
end Go.Proofs.Ythejkafdoomhoaa
