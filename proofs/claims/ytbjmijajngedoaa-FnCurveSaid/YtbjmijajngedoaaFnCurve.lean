/-
  FnCurve answers true at every slice of bytes and leaves it as it was: any two Points can be added, to a Point, in any order, and a Point less itself is Nought. No condition.
-/
import Derived.Test.YtbjmijajngedoaaRows
import Derived.WalkKit
import Derived.ProofKit
import Derived.OpenShut
import Derived.ShutString
import Derived.ChangeOld
import Derived.Below
import Derived.Test.YtbjmijajngedoaaLawD
import Derived.Test.YtbjmijajngedoaaCurveE
import Derived.Test.YtbjmijajngedoaaCurveV
import Derived.Test.YtbjmijajngedoaaCurveX
import Derived.Deep.Cut
import Derived.Deep.CutRange
import Derived.Deep.RegionHeld3
import Derived.Deep.RegionWith
import Derived.Laws.StructEq
namespace Go.Proofs.Ytbjmijajngedoaa.fnCurve
open Go.ChangeShapes Go.WideShapes Go.ChangeAt Go.RowKit
open Go.ChangeMaps (open_string shut_string)
set_option linter.unusedVariables false

theorem own : ownKnob Try.prog.godebug = none := by kernel_rfl
theorem laidOut : laidOutB Try.prog = true := by kernel_rfl

/-- A row of integers that came in: nil, or cells at an address. -/
def IsRow (k : IntKind) (w : World) (a : Option Addr) (len cap : Nat) (zs : List Int) : Prop :=
  (a = none ∧ len = 0 ∧ cap = 0 ∧ zs = []) ∨
  ∃ x, a = some x ∧ len ≤ cap ∧ cap ≤ maxLen ∧ zs.length = cap ∧ (∀ i, i < zs.length → w.cell? (x.add i) = some (.int k (zs.getD i 0))) ∧ ∀ n ∈ zs, (Lit.int k n).wf = true

open Cv Cu
theorem code_of {w : World} {a : Option Addr} {len cap : Nat} {zs : List Int} (h : IsRow .u8 w a len cap zs) : Dr.Code w.heap.size w a len := by
  refine ⟨fun i hi => ?_⟩
  rcases h with ⟨rfl, rfl, rfl, rfl⟩ | ⟨x, rfl, hl, hm, hz, hcell, hwz⟩
  · omega
  · have hc := hcell i (by omega)
    obtain ⟨b, off, spot⟩ := x
    have h00 := hcell 0 (by omega)
    have hspot : spot = none := by simpa [Addr.add] using World.cell?_spot h00
    subst hspot
    have hc0 : w.cell? ⟨b, off + i, none⟩ = some (.int .u8 (zs.getD i 0)) := by
      by_cases e : i = 0
      · subst e; simpa [Addr.add] using hc
      · simpa [Addr.add, e] using hc
    have hw := hwz (zs.getD i 0) (by rw [List.getD_eq_getElem?_getD, List.getElem?_eq_getElem (by omega)]; simp)
    have hb : b < w.heap.size := by
      refine Decidable.byContradiction fun hn => ?_
      have hx : w.heap[b]? = none := by simp; omega
      simp [World.cell?, hx] at hc0
    have hbd := bounds_u8 hw
    exact ⟨b, off, _, rfl, hb, hc0, hbd.1, hbd.2⟩
theorem twd {w : World} {b : Nat} {x y : Int} (h : Tw w b x y) : Tw w.drew b x y := ⟨h.lt, h.c0, h.c1⟩
theorem pr (p : Nat × Nat) : (p.1, p.2) = p := rfl
/-- Both sums of two Points alike; where both are Points, what more sums of them are. -/
theorem curveA (x y p q : Int) : ∃ (u v : Int) (f : Bool),
    (∀ w, Calls Try.prog 8 #[.agg #[.int .i64 x, .int .i64 y], .agg #[.int .i64 p, .int .i64 q]] w fun e w' => e = .returned (.tuple #[.agg #[.int .i64 u, .int .i64 v], .bool f]) ∧ Below w.heap.size w w') ∧
    (∀ w, Calls Try.prog 11 #[.agg #[.int .i64 x, .int .i64 y], .agg #[.int .i64 p, .int .i64 q]] w fun e w' => e = .returned (.tuple #[.agg #[.int .i64 u, .int .i64 v], .bool f]) ∧ Below w.heap.size w w') ∧
    ((f = false ∧ u = 0 ∧ v = 0) ∨ (f = true ∧ okI u v = true ∧ ∀ c d : Nat, okN (c, d) = true → ∃ m1 m2 o1 o2 : Int,
      (∀ w, Calls Try.prog 8 #[.agg #[.int .i64 p, .int .i64 q], .agg #[.int .i64 c, .int .i64 d]] w fun e w' => e = .returned (.tuple #[.agg #[.int .i64 m1, .int .i64 m2], .bool true]) ∧ Below w.heap.size w w') ∧
      (∀ w, Calls Try.prog 8 #[.agg #[.int .i64 u, .int .i64 v], .agg #[.int .i64 c, .int .i64 d]] w fun e w' => e = .returned (.tuple #[.agg #[.int .i64 o1, .int .i64 o2], .bool true]) ∧ Below w.heap.size w w') ∧
      (∀ w, Calls Try.prog 8 #[.agg #[.int .i64 x, .int .i64 y], .agg #[.int .i64 m1, .int .i64 m2]] w fun e w' => e = .returned (.tuple #[.agg #[.int .i64 o1, .int .i64 o2], .bool true]) ∧ Below w.heap.size w w') ∧
      (∀ w, Calls Try.prog 8 #[.agg #[.int .i64 p, .int .i64 q], .agg #[.int .i64 x, .int .i64 y]] w fun e w' => e = .returned (.tuple #[.agg #[.int .i64 u, .int .i64 v], .bool true]) ∧ Below w.heap.size w w') ∧
      (∀ w, Calls Try.prog 8 #[.agg #[.int .i64 x, .int .i64 y], .agg #[.int .i64 0, .int .i64 1]] w fun e w' => e = .returned (.tuple #[.agg #[.int .i64 x, .int .i64 y], .bool true]) ∧ Below w.heap.size w w'))) := by
  by_cases h : (okI x y && okI p q) = true
  · rw [Bool.and_eq_true] at h
    obtain ⟨a, b, rfl, rfl, h1⟩ := okI_nat h.1
    obtain ⟨c, d, rfl, rfl, h2⟩ := okI_nat h.2
    have hs := ad_ok h1 h2
    refine ⟨((adN (a, b) (c, d)).1 : Int), ((adN (a, b) (c, d)).2 : Int), true, fun w => impl_Added_yes a b c d w h1 h2, fun w => spec_Added_yes a b c d w h1 h2, .inr ⟨rfl, ?_, fun m n hm => ?_⟩⟩
    · rw [okI_cast, pr]; exact hs
    · have hbc := ad_ok h2 hm
      have e1 : adN ((adN (a, b) (c, d)).1, (adN (a, b) (c, d)).2) (m, n) = adN (a, b) ((adN (c, d) (m, n)).1, (adN (c, d) (m, n)).2) := by
        rw [pr, pr]; exact ad_assoc h1 h2 hm
      have e2 : adN (c, d) (a, b) = adN (a, b) (c, d) := ad_comm _ _
      have e3 : adN (a, b) (0, 1) = (a, b) := ad_nought (ok_el h1)
      refine ⟨((adN (c, d) (m, n)).1 : Int), ((adN (c, d) (m, n)).2 : Int), _, _, fun w => impl_Added_yes c d m n w h2 hm, fun w => impl_Added_yes _ _ m n w (by rw [pr]; exact hs) hm, fun w => ?_, fun w => ?_, fun w => ?_⟩
      · have := impl_Added_yes a b (adN (c, d) (m, n)).1 (adN (c, d) (m, n)).2 w h1 (by rw [pr]; exact hbc)
        rw [← e1] at this
        exact this
      · have := impl_Added_yes c d a b w h2 h1
        rw [e2] at this
        exact this
      · have := impl_Added_yes a b 0 1 w h1 ok_nought
        rw [e3] at this
        exact this
  · have h' : (okI x y && okI p q) = false := by simpa using h
    exact ⟨0, 0, false, fun w => impl_Added_no x y p q w h', fun w => spec_Added_no x y p q w h', .inl ⟨rfl, rfl, rfl⟩⟩
/-- Both opposites of a Point alike; where it is one, a Point less itself is Nought. -/
theorem curveO (x y : Int) : ∃ (m n : Int) (g : Bool),
    (∀ w, Calls Try.prog 10 #[.agg #[.int .i64 x, .int .i64 y]] w fun e w' => e = .returned (.tuple #[.agg #[.int .i64 m, .int .i64 n], .bool g]) ∧ Below w.heap.size w w') ∧
    (∀ w, Calls Try.prog 18 #[.agg #[.int .i64 x, .int .i64 y]] w fun e w' => e = .returned (.tuple #[.agg #[.int .i64 m, .int .i64 n], .bool g]) ∧ Below w.heap.size w w') ∧
    (g = false ∨ (g = true ∧ ∀ w, Calls Try.prog 8 #[.agg #[.int .i64 x, .int .i64 y], .agg #[.int .i64 m, .int .i64 n]] w fun e w' => e = .returned (.tuple #[.agg #[.int .i64 0, .int .i64 1], .bool true]) ∧ Below w.heap.size w w')) := by
  by_cases h : okI x y = true
  · obtain ⟨a, b, rfl, rfl, h1⟩ := okI_nat h
    refine ⟨_, _, true, fun w => impl_Opposite_yes a b w h1, fun w => spec_Opposite_yes a b w h1, .inr ⟨rfl, fun w => ?_⟩⟩
    have := impl_Added_yes a b (opN (a, b)).1 (opN (a, b)).2 w h1 (by rw [pr]; exact op_ok h1)
    rw [pr, ad_op h1] at this
    exact this
  · have h' : okI x y = false := by simpa using h
    exact ⟨0, 0, false, fun w => impl_Opposite_no x y w h', fun w => spec_Opposite_no x y w h', .inl rfl⟩
/-- Some times the base: a Point. -/
theorem curveT (k : Nat) (hk : k ≤ 1999) : ∃ c d : Nat, okN (c, d) = true ∧ ∀ w, Calls Try.prog 19 #[.int .i64 (1 + (k : Int)), .agg #[.int .i64 2791, .int .i64 6375]] w fun e w' => e = .returned (.tuple #[.agg #[.int .i64 c, .int .i64 d], .bool true]) ∧ Below w.heap.size w w' := by
  refine ⟨(ns (2791, 6375) (1 + k)).1, (ns (2791, 6375) (1 + k)).2, by rw [pr]; exact ns_ok ok_base _, fun w => ?_⟩
  have := impl_Times_yes (1 + k) 2791 6375 w ok_base (by omega)
  rw [show ((1 + k : Nat) : Int) = 1 + (k : Int) from by omega] at this
  exact this
set_option maxRecDepth 100000 in
set_option maxHeartbeats 16000000 in

theorem walk (a0 : Option Addr) (len0 cap0 : Nat) (z0 : List Int) (w : World) (w0 : IsRow .u8 w a0 len0 cap0 z0) :
    Calls Try.prog 3 #[.slice a0 len0 cap0] w fun e w' => e = .returned (.bool true) ∧ Below w.heap.size w w' := by
  have hcode := code_of w0
  have HC_0 : Hid (Dr.Code w.heap.size w a0 len0) := hcode
  clear hcode w0
  by_cases hb : 4096 < len0
  · have hb' : (4096 : Int) < (len0 : Int) := by omega
    go_enter Try.func3, Try.ntmps3
    go_wp2
    go_ret
    exact ⟨rfl, Below.refl _ _⟩
  · have hb' : ¬ (4096 : Int) < (len0 : Int) := by omega
    go_enter Try.func3, Try.ntmps3
    go_wp2_with (first | (go_at_call 6; go_in) | fail)
    refine (DrawAdded_any _ _ _ _ HC_0.out (by omega)).mono ?_
    rintro e w1 ⟨x, y, p, q, rfl, hbl⟩
    have HC_1 : Hid (Dr.Code w1.heap.size w1 a0 len0) := Hid.mk' (Dr.Code.kept HC_0.out hbl)
    have HB_1 : Hid (Below w.heap.size w w1) := hbl
    clear hbl HC_0
    obtain ⟨u, v, f, ci, cs, ha⟩ := curveA x y p q
    have CI := Hid.mk' ci
    have CS := Hid.mk' cs
    have HA := Hid.mk' ha
    have CP := Hid.mk' (impl_PointOk x y)
    have CQ := Hid.mk' (spec_PointOk x y)
    generalize okI x y = kp at CP CQ
    have hff : (f != f) = false := by simp
    have hkk : (kp != kp) = false := by simp
    clear ci cs ha
    go_wp2_with (fail)
    refine (CI.out _).mono ?_
    rintro e w2 ⟨rfl, hb⟩
    have t3_2 := Hid.mk' (Tw.next ((Tw.newAt (w := w1) (x := x) (y := y) rfl).old) hb)
    have t4_2 := Hid.mk' (Tw.next (Tw.newAt (x := p) (y := q) (k := w1.heap.size + 1) (by simp)) hb)
    have HC_2 := Hid.mk' (code_step (code_old HC_1.out) hb)
    have HB_2 := Hid.mk' (below_step (below_old HB_1.out) hb)
    clear HC_1 HB_1 hb
    have t3c := t3_2.out.c0
    have t3d := t3_2.out.c1
    have t3l := t3_2.out.lt
    have t4c := t4_2.out.c0
    have t4d := t4_2.out.c1
    have t4l := t4_2.out.lt
    go_wp2_with (fail)
    refine (DrawOpposite_any _ _ _ _ (code_old HC_2.out) (by omega)).mono ?_
    rintro e w3 ⟨ox, oy, rfl, hb⟩
    clear t3c t3d t3l t4c t4d t4l
    have t3_3 := Hid.mk' (t3_2.out.step hb)
    clear t3_2
    have t4_3 := Hid.mk' (t4_2.out.step hb)
    clear t4_2
    have t5_3 := Hid.mk' (Tw.fresh (x := u) (y := v) hb)
    have HC_3 := Hid.mk' (code_step HC_2.out hb)
    have HB_3 := Hid.mk' (below_step HB_2.out hb)
    clear HC_2 HB_2 hb
    have t3c := t3_3.out.c0
    have t3d := t3_3.out.c1
    have t3l := t3_3.out.lt
    have t4c := t4_3.out.c0
    have t4d := t4_3.out.c1
    have t4l := t4_3.out.lt
    have t5c := t5_3.out.c0
    have t5d := t5_3.out.c1
    have t5l := t5_3.out.lt
    obtain ⟨m, n, g, co, cq, ho⟩ := curveO ox oy
    have CO := Hid.mk' co
    have CQO := Hid.mk' cq
    have HO := Hid.mk' ho
    have hgg : (g != g) = false := by simp
    clear co cq ho
    go_wp2_with (fail)
    refine (CO.out _).mono ?_
    rintro e w4 ⟨rfl, hb⟩
    clear t3c t3d t3l t4c t4d t4l t5c t5d t5l
    have t3_4 := Hid.mk' (t3_3.out.step hb)
    clear t3_3
    have t4_4 := Hid.mk' (t4_3.out.step hb)
    clear t4_3
    have t5_4 := Hid.mk' (t5_3.out.step hb)
    clear t5_3
    have t7_4 := Hid.mk' (Tw.fresh (x := ox) (y := oy) hb)
    have HC_4 := Hid.mk' (code_step HC_3.out hb)
    have HB_4 := Hid.mk' (below_step HB_3.out hb)
    clear HC_3 HB_3 hb
    have t3c := t3_4.out.c0
    have t3d := t3_4.out.c1
    have t3l := t3_4.out.lt
    have t4c := t4_4.out.c0
    have t4d := t4_4.out.c1
    have t4l := t4_4.out.lt
    have t5c := t5_4.out.c0
    have t5d := t5_4.out.c1
    have t5l := t5_4.out.lt
    have t7c := t7_4.out.c0
    have t7d := t7_4.out.c1
    have t7l := t7_4.out.lt
    go_wp2_with (fail)
    refine (CS.out _).mono ?_
    rintro e w5 ⟨rfl, hb⟩
    clear t3c t3d t3l t4c t4d t4l t5c t5d t5l t7c t7d t7l
    have t3_5 := Hid.mk' (t3_4.out.step hb)
    clear t3_4
    have t4_5 := Hid.mk' (t4_4.out.step hb)
    clear t4_4
    have t5_5 := Hid.mk' (t5_4.out.step hb)
    clear t5_4
    have t7_5 := Hid.mk' (t7_4.out.step hb)
    clear t7_4
    have t8_5 := Hid.mk' (Tw.fresh (x := m) (y := n) hb)
    have HC_5 := Hid.mk' (code_step HC_4.out hb)
    have HB_5 := Hid.mk' (below_step HB_4.out hb)
    clear HC_4 HB_4 hb
    have t3c := t3_5.out.c0
    have t3d := t3_5.out.c1
    have t3l := t3_5.out.lt
    have t4c := t4_5.out.c0
    have t4d := t4_5.out.c1
    have t4l := t4_5.out.lt
    have t5c := t5_5.out.c0
    have t5d := t5_5.out.c1
    have t5l := t5_5.out.lt
    have t7c := t7_5.out.c0
    have t7d := t7_5.out.c1
    have t7l := t7_5.out.lt
    have t8c := t8_5.out.c0
    have t8d := t8_5.out.c1
    have t8l := t8_5.out.lt
    go_upto_region 8 with fail
    have Ft3 : Hid (Tw (w5.alloc (.cells #[.int .i64 u, .int .i64 v] 25)) w1.heap.size x y) := Hid.mk' (Tw.old t3_5.out)
    have Ft4 : Hid (Tw (w5.alloc (.cells #[.int .i64 u, .int .i64 v] 25)) (w1.heap.size + 1) p q) := Hid.mk' (Tw.old t4_5.out)
    have Ft5 : Hid (Tw (w5.alloc (.cells #[.int .i64 u, .int .i64 v] 25)) w2.heap.size u v) := Hid.mk' (Tw.old t5_5.out)
    have Ft7 : Hid (Tw (w5.alloc (.cells #[.int .i64 u, .int .i64 v] 25)) w3.heap.size ox oy) := Hid.mk' (Tw.old t7_5.out)
    have Ft8 : Hid (Tw (w5.alloc (.cells #[.int .i64 u, .int .i64 v] 25)) w4.heap.size m n) := Hid.mk' (Tw.old t8_5.out)
    have Ft10 : Hid (Tw (w5.alloc (.cells #[.int .i64 u, .int .i64 v] 25)) w5.heap.size u v) := Hid.mk' (Tw.newAt rfl)
    have HBz := Hid.mk' (below_old (o := (.cells #[.int .i64 u, .int .i64 v] 25)) HB_5.out)
    have HCz := Hid.mk' (code_old (o := (.cells #[.int .i64 u, .int .i64 v] 25)) HC_5.out)
    clear t3c t3d t3l t3_5 t4c t4d t4l t4_5 t5c t5d t5l t5_5 t7c t7d t7l t7_5 t8c t8d t8l t8_5 HB_5 HC_5
    generalize (w5.alloc (.cells #[.int .i64 u, .int .i64 v] 25)) = wz at Ft3 Ft4 Ft5 Ft7 Ft8 Ft10 HBz HCz ⊢
    generalize hbt4 : (w1.heap.size + 1) = bt4 at Ft4 ⊢
    generalize hbt3 : w1.heap.size = bt3 at Ft3 ⊢
    generalize hbt5 : w2.heap.size = bt5 at Ft5 ⊢
    generalize hbt7 : w3.heap.size = bt7 at Ft7 ⊢
    generalize hbt8 : w4.heap.size = bt8 at Ft8 ⊢
    generalize hbt10 : w5.heap.size = bt10 at Ft10 ⊢
    clear hbt3 hbt4 hbt5 hbt7 hbt8 hbt10
    have f0 := Ft5.out.c0
    have f1 := Ft5.out.c1
    have f2 := Ft10.out.c0
    have f3 := Ft10.out.c1
    have f4 := Ft3.out.c0
    have f5 := Ft3.out.c1
    have f6 := Ft5.out.lt
    have f7 := Ft10.out.lt
    have f8 := Ft3.out.lt
    go_region_held3 (fun w' => w'.cell? ⟨bt5, 0, none⟩ = some (.int .i64 u) ∧ w'.cell? ⟨bt5, 1, none⟩ = some (.int .i64 v) ∧ w'.cell? ⟨bt10, 0, none⟩ = some (.int .i64 u) ∧ w'.cell? ⟨bt10, 1, none⟩ = some (.int .i64 v) ∧ w'.cell? ⟨bt3, 0, none⟩ = some (.int .i64 x) ∧ w'.cell? ⟨bt3, 1, none⟩ = some (.int .i64 y) ∧ w'.cell? ⟨bt3, 0, none⟩ = some (.int .i64 x) ∧ w'.cell? ⟨bt3, 1, none⟩ = some (.int .i64 y)) (first | assumption | exact ⟨f0, f1, f2, f3, f4, f5, f4, f5⟩ | (with_reducible refine held8 hbw6 (by assumption) ?_ ?_ ?_ ?_ <;> omega) | (with_reducible refine held8 hbwE (by assumption) ?_ ?_ ?_ ?_ <;> omega) | (with_reducible refine held8 hbwD (by assumption) ?_ ?_ ?_ ?_ <;> omega) | (with_reducible refine held8 hbwC (by assumption) ?_ ?_ ?_ ?_ <;> omega) | (with_reducible refine held8 hbwB (by assumption) ?_ ?_ ?_ ?_ <;> omega) | (with_reducible refine held8_drew hbwA (by assumption) ?_ ?_ ?_ ?_ <;> omega) | (with_reducible refine held8_drew hbwA ⟨f0, f1, f2, f3, f4, f5, f4, f5⟩ ?_ ?_ ?_ ?_ <;> omega) | go_keep)
      (first
        | (go_at_call 12; refine (CP.out _).mono ?_; rintro e wA ⟨rfl, hbwA⟩; have zwA : wz.heap.size ≤ wA.heap.size := (by have := hbwA.size; (try simp at this); omega); have awA := below_next (w0 := wz) (by first | exact Below.drew (Below.refl _ _) | assumption) hbwA)
        | (go_at_call 13; refine (CQ.out _).mono ?_; rintro e wB ⟨rfl, hbwB⟩; have zwB : wz.heap.size ≤ wB.heap.size := (by have := hbwB.size; (try simp at this); omega); have awB := below_next (w0 := wz) awA hbwB)
        | (go_at_call 14; refine (impl_Nought _).mono ?_; rintro e wC ⟨rfl, hbwC⟩; have zwC : wz.heap.size ≤ wC.heap.size := (by have := hbwC.size; (try simp at this); omega); have awC := below_next (w0 := wz) awB hbwC)
        | (go_at_call 15; refine (spec_Nought _).mono ?_; rintro e wD ⟨rfl, hbwD⟩; have zwD : wz.heap.size ≤ wD.heap.size := (by have := hbwD.size; (try simp at this); omega); have awD := below_next (w0 := wz) awC hbwD)
        | (go_at_call 16; refine (impl_Base _).mono ?_; rintro e wE ⟨rfl, hbwE⟩; have zwE : wz.heap.size ≤ wE.heap.size := (by have := hbwE.size; (try simp at this); omega); have awE := below_next (w0 := wz) awD hbwE)
        | (go_at_call 17; refine (spec_Base _).mono ?_; rintro e w6 ⟨rfl, hbw6⟩; have zw6 : wz.heap.size ≤ w6.heap.size := (by have := hbw6.size; (try simp at this); omega); have aw6 := below_next (w0 := wz) awE hbw6))
    have t3_6 := Hid.mk' (Ft3.out.next aw6)
    have t4_6 := Hid.mk' (Ft4.out.next aw6)
    have t5_6 := Hid.mk' (Ft5.out.next aw6)
    have t7_6 := Hid.mk' (Ft7.out.next aw6)
    have t8_6 := Hid.mk' (Ft8.out.next aw6)
    have t10_6 := Hid.mk' (Ft10.out.next aw6)
    have HC_6 := Hid.mk' (code_next HCz.out aw6)
    have HB_6 := Hid.mk' (below_next HBz.out aw6)
    clear f0 f1 f2 f3 f4 f5 f6 f7 f8 HBz HCz Ft3 Ft4 Ft5 Ft7 Ft8 Ft10 hbwA zwA awA hbwB zwB awB hbwC zwC awC hbwD zwD awD hbwE zwE awE hbw6 zw6 aw6
    have t3c := t3_6.out.c0
    have t3d := t3_6.out.c1
    have t3l := t3_6.out.lt
    have t4c := t4_6.out.c0
    have t4d := t4_6.out.c1
    have t4l := t4_6.out.lt
    have t5c := t5_6.out.c0
    have t5d := t5_6.out.c1
    have t5l := t5_6.out.lt
    have t7c := t7_6.out.c0
    have t7d := t7_6.out.c1
    have t7l := t7_6.out.lt
    have t8c := t8_6.out.c0
    have t8d := t8_6.out.c1
    have t8l := t8_6.out.lt
    have t10c := t10_6.out.c0
    have t10d := t10_6.out.c1
    have t10l := t10_6.out.lt
    clear t10c t10d t10l t10_6
    go_wp2_with (fail)
    refine (CQO.out _).mono ?_
    rintro e w7 ⟨rfl, hb⟩
    clear t3c t3d t3l t4c t4d t4l t5c t5d t5l t7c t7d t7l t8c t8d t8l
    have t3_7 := Hid.mk' (t3_6.out.next hb)
    clear t3_6
    have t4_7 := Hid.mk' (t4_6.out.next hb)
    clear t4_6
    have t5_7 := Hid.mk' (t5_6.out.next hb)
    clear t5_6
    have t7_7 := Hid.mk' (t7_6.out.next hb)
    clear t7_6
    have t8_7 := Hid.mk' (t8_6.out.next hb)
    clear t8_6
    have HC_7 := Hid.mk' (code_next HC_6.out hb)
    have HB_7 := Hid.mk' (below_next HB_6.out hb)
    clear HC_6 HB_6 hb
    have t3c := t3_7.out.c0
    have t3d := t3_7.out.c1
    have t3l := t3_7.out.lt
    have t4c := t4_7.out.c0
    have t4d := t4_7.out.c1
    have t4l := t4_7.out.lt
    have t5c := t5_7.out.c0
    have t5d := t5_7.out.c1
    have t5l := t5_7.out.lt
    have t7c := t7_7.out.c0
    have t7d := t7_7.out.c1
    have t7l := t7_7.out.lt
    have t8c := t8_7.out.c0
    have t8d := t8_7.out.c1
    have t8l := t8_7.out.lt
    rcases HO.out with rfl | ⟨rfl, co⟩
    · clear HO hgg
      rcases HA.out with ⟨rfl, rfl, rfl⟩ | ⟨rfl, hst, hm⟩
      · clear HA hff
        go_wp2_with (fail)
        go_ret
        exact ⟨rfl, below_old HB_7.out⟩
      · have HM := Hid.mk' hm
        have cu := impl_PointOk u v
        rw [hst] at cu
        have CU := Hid.mk' cu
        clear HA hff hst hm cu
        go_wp2_with (fail)
        refine (Dr.pick_any _ _ _ _ _ _ _ (code_old HC_7.out) (by omega) (by decide) (by decide) (by decide)).mono ?_
        rintro e wp ⟨kk, kk0, kk1, rfl, rfl⟩
        obtain ⟨kn, rfl⟩ := Int.eq_ofNat_of_zero_le kk0
        obtain ⟨cc, dd, hcd, ct⟩ := curveT kn (by omega)
        obtain ⟨m1, m2, o1, o2, g1, g2, g3, g4, g5⟩ := HM.out cc dd hcd
        have CT := Hid.mk' ct
        have G1 := Hid.mk' g1
        have G2 := Hid.mk' g2
        have G3 := Hid.mk' g3
        have G4 := Hid.mk' g4
        have G5 := Hid.mk' g5
        clear ct g1 g2 g3 g4 g5 hcd HM
        go_wp2_with (fail)
        refine (impl_Base _).mono ?_
        rintro e w8 ⟨rfl, hb⟩
        clear t3c t3d t3l t4c t4d t4l t5c t5d t5l t7c t7d t7l t8c t8d t8l
        have t3_8 := Hid.mk' (t3_7.out.step hb)
        clear t3_7
        have t4_8 := Hid.mk' (t4_7.out.step hb)
        clear t4_7
        have t5_8 := Hid.mk' (t5_7.out.step hb)
        clear t5_7
        have t7_8 := Hid.mk' (t7_7.out.step hb)
        clear t7_7
        have t8_8 := Hid.mk' (t8_7.out.step hb)
        clear t8_7
        have t12_8 := Hid.mk' (Tw.fresh (x := m) (y := n) hb)
        have HC_8 := Hid.mk' (code_step HC_7.out hb)
        have HB_8 := Hid.mk' (below_step HB_7.out hb)
        clear HC_7 HB_7 hb
        have t3c := t3_8.out.c0
        have t3d := t3_8.out.c1
        have t3l := t3_8.out.lt
        have t4c := t4_8.out.c0
        have t4d := t4_8.out.c1
        have t4l := t4_8.out.lt
        have t5c := t5_8.out.c0
        have t5d := t5_8.out.c1
        have t5l := t5_8.out.lt
        have t7c := t7_8.out.c0
        have t7d := t7_8.out.c1
        have t7l := t7_8.out.lt
        have t8c := t8_8.out.c0
        have t8d := t8_8.out.c1
        have t8l := t8_8.out.lt
        have t12c := t12_8.out.c0
        have t12d := t12_8.out.c1
        have t12l := t12_8.out.lt
        go_wp2_with (fail)
        refine (CT.out _).mono ?_
        rintro e w9 ⟨rfl, hb⟩
        clear t3c t3d t3l t4c t4d t4l t5c t5d t5l t7c t7d t7l t8c t8d t8l t12c t12d t12l
        have t3_9 := Hid.mk' (t3_8.out.next hb)
        clear t3_8
        have t4_9 := Hid.mk' (t4_8.out.next hb)
        clear t4_8
        have t5_9 := Hid.mk' (t5_8.out.next hb)
        clear t5_8
        have t7_9 := Hid.mk' (t7_8.out.next hb)
        clear t7_8
        have t8_9 := Hid.mk' (t8_8.out.next hb)
        clear t8_8
        have t12_9 := Hid.mk' (t12_8.out.next hb)
        clear t12_8
        have HC_9 := Hid.mk' (code_next HC_8.out hb)
        have HB_9 := Hid.mk' (below_next HB_8.out hb)
        clear HC_8 HB_8 hb
        have t3c := t3_9.out.c0
        have t3d := t3_9.out.c1
        have t3l := t3_9.out.lt
        have t4c := t4_9.out.c0
        have t4d := t4_9.out.c1
        have t4l := t4_9.out.lt
        have t5c := t5_9.out.c0
        have t5d := t5_9.out.c1
        have t5l := t5_9.out.lt
        have t7c := t7_9.out.c0
        have t7d := t7_9.out.c1
        have t7l := t7_9.out.lt
        have t8c := t8_9.out.c0
        have t8d := t8_9.out.c1
        have t8l := t8_9.out.lt
        have t12c := t12_9.out.c0
        have t12d := t12_9.out.c1
        have t12l := t12_9.out.lt
        go_wp2_with (fail)
        refine (G1.out _).mono ?_
        rintro e w10 ⟨rfl, hb⟩
        clear t3c t3d t3l t4c t4d t4l t5c t5d t5l t7c t7d t7l t8c t8d t8l t12c t12d t12l
        have t3_10 := Hid.mk' (t3_9.out.step hb)
        clear t3_9
        have t4_10 := Hid.mk' (t4_9.out.step hb)
        clear t4_9
        have t5_10 := Hid.mk' (t5_9.out.step hb)
        clear t5_9
        have t7_10 := Hid.mk' (t7_9.out.step hb)
        clear t7_9
        have t8_10 := Hid.mk' (t8_9.out.step hb)
        clear t8_9
        have t12_10 := Hid.mk' (t12_9.out.step hb)
        clear t12_9
        have t16_10 := Hid.mk' (Tw.fresh (x := (cc : Int)) (y := (dd : Int)) hb)
        have HC_10 := Hid.mk' (code_step HC_9.out hb)
        have HB_10 := Hid.mk' (below_step HB_9.out hb)
        clear HC_9 HB_9 hb
        have t3c := t3_10.out.c0
        have t3d := t3_10.out.c1
        have t3l := t3_10.out.lt
        have t4c := t4_10.out.c0
        have t4d := t4_10.out.c1
        have t4l := t4_10.out.lt
        have t5c := t5_10.out.c0
        have t5d := t5_10.out.c1
        have t5l := t5_10.out.lt
        have t7c := t7_10.out.c0
        have t7d := t7_10.out.c1
        have t7l := t7_10.out.lt
        have t8c := t8_10.out.c0
        have t8d := t8_10.out.c1
        have t8l := t8_10.out.lt
        have t12c := t12_10.out.c0
        have t12d := t12_10.out.c1
        have t12l := t12_10.out.lt
        have t16c := t16_10.out.c0
        have t16d := t16_10.out.c1
        have t16l := t16_10.out.lt
        go_wp2_with (fail)
        refine (G2.out _).mono ?_
        rintro e w11 ⟨rfl, hb⟩
        clear t3c t3d t3l t4c t4d t4l t5c t5d t5l t7c t7d t7l t8c t8d t8l t12c t12d t12l t16c t16d t16l
        have t3_11 := Hid.mk' (t3_10.out.step hb)
        clear t3_10
        have t4_11 := Hid.mk' (t4_10.out.step hb)
        clear t4_10
        have t5_11 := Hid.mk' (t5_10.out.step hb)
        clear t5_10
        have t7_11 := Hid.mk' (t7_10.out.step hb)
        clear t7_10
        have t8_11 := Hid.mk' (t8_10.out.step hb)
        clear t8_10
        have t12_11 := Hid.mk' (t12_10.out.step hb)
        clear t12_10
        have t16_11 := Hid.mk' (t16_10.out.step hb)
        clear t16_10
        have t18_11 := Hid.mk' (Tw.fresh (x := m1) (y := m2) hb)
        have HC_11 := Hid.mk' (code_step HC_10.out hb)
        have HB_11 := Hid.mk' (below_step HB_10.out hb)
        clear HC_10 HB_10 hb
        have t3c := t3_11.out.c0
        have t3d := t3_11.out.c1
        have t3l := t3_11.out.lt
        have t4c := t4_11.out.c0
        have t4d := t4_11.out.c1
        have t4l := t4_11.out.lt
        have t5c := t5_11.out.c0
        have t5d := t5_11.out.c1
        have t5l := t5_11.out.lt
        have t7c := t7_11.out.c0
        have t7d := t7_11.out.c1
        have t7l := t7_11.out.lt
        have t8c := t8_11.out.c0
        have t8d := t8_11.out.c1
        have t8l := t8_11.out.lt
        have t12c := t12_11.out.c0
        have t12d := t12_11.out.c1
        have t12l := t12_11.out.lt
        have t16c := t16_11.out.c0
        have t16d := t16_11.out.c1
        have t16l := t16_11.out.lt
        have t18c := t18_11.out.c0
        have t18d := t18_11.out.c1
        have t18l := t18_11.out.lt
        go_wp2_with (fail)
        refine (G3.out _).mono ?_
        rintro e w12 ⟨rfl, hb⟩
        clear t3c t3d t3l t4c t4d t4l t5c t5d t5l t7c t7d t7l t8c t8d t8l t12c t12d t12l t16c t16d t16l t18c t18d t18l
        have t3_12 := Hid.mk' (t3_11.out.step hb)
        clear t3_11
        have t4_12 := Hid.mk' (t4_11.out.step hb)
        clear t4_11
        have t5_12 := Hid.mk' (t5_11.out.step hb)
        clear t5_11
        have t7_12 := Hid.mk' (t7_11.out.step hb)
        clear t7_11
        have t8_12 := Hid.mk' (t8_11.out.step hb)
        clear t8_11
        have t12_12 := Hid.mk' (t12_11.out.step hb)
        clear t12_11
        have t16_12 := Hid.mk' (t16_11.out.step hb)
        clear t16_11
        have t18_12 := Hid.mk' (t18_11.out.step hb)
        clear t18_11
        have t20_12 := Hid.mk' (Tw.fresh (x := o1) (y := o2) hb)
        have HC_12 := Hid.mk' (code_step HC_11.out hb)
        have HB_12 := Hid.mk' (below_step HB_11.out hb)
        clear HC_11 HB_11 hb
        have t3c := t3_12.out.c0
        have t3d := t3_12.out.c1
        have t3l := t3_12.out.lt
        have t4c := t4_12.out.c0
        have t4d := t4_12.out.c1
        have t4l := t4_12.out.lt
        have t5c := t5_12.out.c0
        have t5d := t5_12.out.c1
        have t5l := t5_12.out.lt
        have t7c := t7_12.out.c0
        have t7d := t7_12.out.c1
        have t7l := t7_12.out.lt
        have t8c := t8_12.out.c0
        have t8d := t8_12.out.c1
        have t8l := t8_12.out.lt
        have t12c := t12_12.out.c0
        have t12d := t12_12.out.c1
        have t12l := t12_12.out.lt
        have t16c := t16_12.out.c0
        have t16d := t16_12.out.c1
        have t16l := t16_12.out.lt
        have t18c := t18_12.out.c0
        have t18d := t18_12.out.c1
        have t18l := t18_12.out.lt
        have t20c := t20_12.out.c0
        have t20d := t20_12.out.c1
        have t20l := t20_12.out.lt
        go_wp2_with (fail)
        refine (G4.out _).mono ?_
        rintro e w13 ⟨rfl, hb⟩
        clear t3c t3d t3l t4c t4d t4l t5c t5d t5l t7c t7d t7l t8c t8d t8l t12c t12d t12l t16c t16d t16l t18c t18d t18l t20c t20d t20l
        have t3_13 := Hid.mk' (t3_12.out.step hb)
        clear t3_12
        have t4_13 := Hid.mk' (t4_12.out.step hb)
        clear t4_12
        have t5_13 := Hid.mk' (t5_12.out.step hb)
        clear t5_12
        have t7_13 := Hid.mk' (t7_12.out.step hb)
        clear t7_12
        have t8_13 := Hid.mk' (t8_12.out.step hb)
        clear t8_12
        have t12_13 := Hid.mk' (t12_12.out.step hb)
        clear t12_12
        have t16_13 := Hid.mk' (t16_12.out.step hb)
        clear t16_12
        have t18_13 := Hid.mk' (t18_12.out.step hb)
        clear t18_12
        have t20_13 := Hid.mk' (t20_12.out.step hb)
        clear t20_12
        have t22_13 := Hid.mk' (Tw.fresh (x := o1) (y := o2) hb)
        have HC_13 := Hid.mk' (code_step HC_12.out hb)
        have HB_13 := Hid.mk' (below_step HB_12.out hb)
        clear HC_12 HB_12 hb
        have t3c := t3_13.out.c0
        have t3d := t3_13.out.c1
        have t3l := t3_13.out.lt
        have t4c := t4_13.out.c0
        have t4d := t4_13.out.c1
        have t4l := t4_13.out.lt
        have t5c := t5_13.out.c0
        have t5d := t5_13.out.c1
        have t5l := t5_13.out.lt
        have t7c := t7_13.out.c0
        have t7d := t7_13.out.c1
        have t7l := t7_13.out.lt
        have t8c := t8_13.out.c0
        have t8d := t8_13.out.c1
        have t8l := t8_13.out.lt
        have t12c := t12_13.out.c0
        have t12d := t12_13.out.c1
        have t12l := t12_13.out.lt
        have t16c := t16_13.out.c0
        have t16d := t16_13.out.c1
        have t16l := t16_13.out.lt
        have t18c := t18_13.out.c0
        have t18d := t18_13.out.c1
        have t18l := t18_13.out.lt
        have t20c := t20_13.out.c0
        have t20d := t20_13.out.c1
        have t20l := t20_13.out.lt
        have t22c := t22_13.out.c0
        have t22d := t22_13.out.c1
        have t22l := t22_13.out.lt
        go_upto_region 24 with fail
        have Ft3 : Hid (Tw (w13.alloc (.cells #[.int .i64 u, .int .i64 v] 25)) bt3 x y) := Hid.mk' (Tw.old t3_13.out)
        have Ft5 : Hid (Tw (w13.alloc (.cells #[.int .i64 u, .int .i64 v] 25)) bt5 u v) := Hid.mk' (Tw.old t5_13.out)
        have Ft20 : Hid (Tw (w13.alloc (.cells #[.int .i64 u, .int .i64 v] 25)) w11.heap.size o1 o2) := Hid.mk' (Tw.old t20_13.out)
        have Ft22 : Hid (Tw (w13.alloc (.cells #[.int .i64 u, .int .i64 v] 25)) w12.heap.size o1 o2) := Hid.mk' (Tw.old t22_13.out)
        have Ft24 : Hid (Tw (w13.alloc (.cells #[.int .i64 u, .int .i64 v] 25)) w13.heap.size u v) := Hid.mk' (Tw.newAt rfl)
        have HBz := Hid.mk' (below_old (o := (.cells #[.int .i64 u, .int .i64 v] 25)) HB_13.out)
        clear t3c t3d t3l t3_13 t4c t4d t4l t4_13 t5c t5d t5l t5_13 t7c t7d t7l t7_13 t8c t8d t8l t8_13 t12c t12d t12l t12_13 t16c t16d t16l t16_13 t18c t18d t18l t18_13 t20c t20d t20l t20_13 t22c t22d t22l t22_13 HB_13 HC_13
        generalize (w13.alloc (.cells #[.int .i64 u, .int .i64 v] 25)) = wx at Ft3 Ft5 Ft20 Ft22 Ft24 HBz ⊢
        have f0 := Ft3.out.c0
        have f1 := Ft3.out.c1
        have f2 := Ft3.out.lt
        have f3 : bt3 < wx.heap.size + 1 := by omega
        have f4 : ¬ bt3 = wx.heap.size := by omega
        go_cut [26, 27] from 28 to 165 (fun s26 s27 wq => ∃ tb : Nat, s26 = .pointer (some ⟨tb, 0, none⟩) ∧ s27 = .bool true ∧ Tw wq tb x y ∧ Below wx.heap.size wx wq)
        case first =>
          go_region_with (first
            | (go_at_call 14; refine (impl_Nought _).mono ?_; rintro e wN ⟨rfl, hbN⟩; have EN : Tw wN bt3 x y := (by first | (with_reducible exact (twd Ft3.out).next hbN) | (with_reducible exact (twd Ft3.out).step hbN) | (with_reducible exact (twd Ft3.out.old).next hbN)); have eN0 := EN.c0; have eN1 := EN.c1; have eN2 := EN.lt; clear EN; obtain ⟨hcN, hfN⟩ := bcell hbN; have zN0 : wx.heap.size ≤ wN.heap.size := (by have := hbN.size; (try simp at this); omega); have zN1 : bt3 < wN.heap.size := (by omega); have zN2 : bt3 < wN.heap.size + 1 := (by omega); (try have zN3 : wx.heap.size < wN.heap.size := (by have := hbN.size; (try simp at this); omega)))
            | (go_at_call 8; refine (G5.out _).mono ?_; rintro e wM ⟨rfl, hbM⟩; obtain ⟨hcM, hfM⟩ := bcell hbM; have zM0 : wx.heap.size ≤ wM.heap.size := (by have := hbM.size; (try simp at this); omega); (try have zM3 : wx.heap.size < wM.heap.size := (by have := hbM.size; (try simp at this); omega)); (try have zM4 : wN.heap.size < wM.heap.size := (by have := hbM.size; (try simp at this); omega))))
          all_goals
            go_wp2_with fail
            go_meet
            have bN : Below wx.heap.size wx wN := by
              first
                | exact (Below.refl wx.heap.size wx).drew.trans (hbN.mono (B' := wx.heap.size) (by (try simp); (try omega)))
                | exact ((Below.refl wx.heap.size wx).drew.alloc (by (try simp); (try omega)) _).trans (hbN.mono (B' := wx.heap.size) (by (try simp); (try omega)))
                | exact ((Below.refl wx.heap.size wx).alloc (by (try simp); (try omega)) _).drew.trans (hbN.mono (B' := wx.heap.size) (by (try simp); (try omega)))
            have sN := bN.size
            have bM : Below wx.heap.size wx wM := by
              first
                | exact bN.trans (hbM.mono (B' := wx.heap.size) (by (try simp at sN); (try simp); (try omega)))
                | exact (bN.alloc (by (try simp at sN); omega) _).trans (hbM.mono (B' := wx.heap.size) (by (try simp at sN); simp; omega))
            have sM := bM.size
            (try simp at sN sM)
            first
              | exact ⟨_, rfl, rfl, Tw.newAt rfl, bM.alloc (by omega) _⟩
              | exact ⟨_, rfl, rfl, Tw.put (v0 := .int .i64 0) (v1 := .int .i64 0) (by omega) (by first | (simp [*]; done) | (simp [*]; exact (Tw.newAt (by simp)).c0)) (by first | (simp [*]; done) | (simp [*]; exact (Tw.newAt (by simp)).c1)), (bM.setCell (by (try simp); (try omega)) _).setCell (by (try simp); (try omega)) _⟩
        case rest =>
          obtain ⟨tb, rfl, rfl, hT, hB⟩ := hcut
          have n26 := hT.c0
          have n27 := hT.c1
          have HB := Hid.mk' hB
          have e3 := Ft3.out.next hB
          have e5 := Ft5.out.next hB
          have e20 := Ft20.out.next hB
          have e22 := Ft22.out.next hB
          have e24 := Ft24.out.next hB
          have n0 := e3.c0
          have n1 := e3.c1
          have n2 := e5.c0
          have n3 := e5.c1
          have n4 := e20.c0
          have n5 := e20.c1
          have n6 := e22.c0
          have n7 := e22.c1
          have n8 := e24.c0
          have n9 := e24.c1
          have HE3 := Hid.mk' e3
          have HE5 := Hid.mk' e5
          have HE20 := Hid.mk' e20
          have HE22 := Hid.mk' e22
          have HE24 := Hid.mk' e24
          have HE26 := Hid.mk' hT
          clear f0 f1 f2 f3 f4 hT hB e3 e5 e20 e22 e24
          go_wp2_with (fail)
          refine (CU.out _).mono ?_
          rintro e wl ⟨rfl, hbl⟩
          have l3 := HE3.out.next hbl
          have l5 := HE5.out.next hbl
          have l20 := HE20.out.next hbl
          have l22 := HE22.out.next hbl
          have l24 := HE24.out.next hbl
          have l26 := HE26.out.next hbl
          have p0 := l3.c0
          have p1 := l3.c1
          have p2 := l5.c0
          have p3 := l5.c1
          have p4 := l20.c0
          have p5 := l20.c1
          have p6 := l22.c0
          have p7 := l22.c1
          have p8 := l24.c0
          have p9 := l24.c1
          have pa := l26.c0
          have pb := l26.c1
          have HBL := Hid.mk' hbl
          clear l3 l5 l20 l22 l24 l26 n0 n1 n2 n3 n4 n5 n6 n7 n8 n9 n26 n27 hbl
          go_wp2_with (fail)
          go_ret
          exact ⟨rfl, below_next (below_next HBz.out HB.out) HBL.out⟩
    · have CON := Hid.mk' co
      clear HO hgg co
      go_wp2_with (fail)
      refine (CON.out _).mono ?_
      rintro e w8 ⟨rfl, hb⟩
      clear t3c t3d t3l t4c t4d t4l t5c t5d t5l t7c t7d t7l t8c t8d t8l
      have t3_8 := Hid.mk' (t3_7.out.step hb)
      clear t3_7
      have t4_8 := Hid.mk' (t4_7.out.step hb)
      clear t4_7
      have t5_8 := Hid.mk' (t5_7.out.step hb)
      clear t5_7
      have t7_8 := Hid.mk' (t7_7.out.step hb)
      clear t7_7
      have t8_8 := Hid.mk' (t8_7.out.step hb)
      clear t8_7
      have t12_8 := Hid.mk' (Tw.fresh (x := m) (y := n) hb)
      have HC_8 := Hid.mk' (code_step HC_7.out hb)
      have HB_8 := Hid.mk' (below_step HB_7.out hb)
      clear HC_7 HB_7 hb
      have t3c := t3_8.out.c0
      have t3d := t3_8.out.c1
      have t3l := t3_8.out.lt
      have t4c := t4_8.out.c0
      have t4d := t4_8.out.c1
      have t4l := t4_8.out.lt
      have t5c := t5_8.out.c0
      have t5d := t5_8.out.c1
      have t5l := t5_8.out.lt
      have t7c := t7_8.out.c0
      have t7d := t7_8.out.c1
      have t7l := t7_8.out.lt
      have t8c := t8_8.out.c0
      have t8d := t8_8.out.c1
      have t8l := t8_8.out.lt
      have t12c := t12_8.out.c0
      have t12d := t12_8.out.c1
      have t12l := t12_8.out.lt
      go_upto_region 15 with fail
      have Ft3 : Hid (Tw (w8.alloc (.cells #[.int .i64 0, .int .i64 1] 25)) bt3 x y) := Hid.mk' (Tw.old t3_8.out)
      have Ft4 : Hid (Tw (w8.alloc (.cells #[.int .i64 0, .int .i64 1] 25)) bt4 p q) := Hid.mk' (Tw.old t4_8.out)
      have Ft5 : Hid (Tw (w8.alloc (.cells #[.int .i64 0, .int .i64 1] 25)) bt5 u v) := Hid.mk' (Tw.old t5_8.out)
      have Ft7 : Hid (Tw (w8.alloc (.cells #[.int .i64 0, .int .i64 1] 25)) bt7 ox oy) := Hid.mk' (Tw.old t7_8.out)
      have Ft8 : Hid (Tw (w8.alloc (.cells #[.int .i64 0, .int .i64 1] 25)) bt8 m n) := Hid.mk' (Tw.old t8_8.out)
      have Ft12 : Hid (Tw (w8.alloc (.cells #[.int .i64 0, .int .i64 1] 25)) w7.heap.size m n) := Hid.mk' (Tw.old t12_8.out)
      have Ft14 : Hid (Tw (w8.alloc (.cells #[.int .i64 0, .int .i64 1] 25)) w8.heap.size 0 1) := Hid.mk' (Tw.newAt rfl)
      have HBz := Hid.mk' (below_old (o := (.cells #[.int .i64 0, .int .i64 1] 25)) HB_8.out)
      have HCz := Hid.mk' (code_old (o := (.cells #[.int .i64 0, .int .i64 1] 25)) HC_8.out)
      clear t3c t3d t3l t3_8 t4c t4d t4l t4_8 t5c t5d t5l t5_8 t7c t7d t7l t7_8 t8c t8d t8l t8_8 t12c t12d t12l t12_8 HB_8 HC_8
      generalize (w8.alloc (.cells #[.int .i64 0, .int .i64 1] 25)) = wy at Ft3 Ft4 Ft5 Ft7 Ft8 Ft12 Ft14 HBz HCz ⊢
      generalize hbt14 : w8.heap.size = bt14 at Ft14 ⊢
      clear hbt14
      have f0 := Ft14.out.c0
      have f1 := Ft14.out.c1
      have f6 := Ft14.out.lt
      go_region_held3 (fun w' => w'.cell? ⟨bt14, 0, none⟩ = some (.int .i64 0) ∧ w'.cell? ⟨bt14, 1, none⟩ = some (.int .i64 1) ∧ w'.cell? ⟨bt14, 0, none⟩ = some (.int .i64 0) ∧ w'.cell? ⟨bt14, 1, none⟩ = some (.int .i64 1) ∧ w'.cell? ⟨bt14, 0, none⟩ = some (.int .i64 0) ∧ w'.cell? ⟨bt14, 1, none⟩ = some (.int .i64 1) ∧ w'.cell? ⟨bt14, 0, none⟩ = some (.int .i64 0) ∧ w'.cell? ⟨bt14, 1, none⟩ = some (.int .i64 1)) (first | assumption | exact ⟨f0, f1, f0, f1, f0, f1, f0, f1⟩ | (with_reducible refine held8_drew hbw9 (by assumption) ?_ ?_ ?_ ?_ <;> omega) | (with_reducible refine held8_drew hbw9 ⟨f0, f1, f0, f1, f0, f1, f0, f1⟩ ?_ ?_ ?_ ?_ <;> omega) | go_keep)
        (first
          | (go_at_call 14; refine (impl_Nought _).mono ?_; rintro e w9 ⟨rfl, hbw9⟩; have zw9 : wy.heap.size ≤ w9.heap.size := hbw9.size; have aw9 := below_next (w0 := wy) (Below.drew (Below.refl _ _)) hbw9))
      have t3_9 := Hid.mk' (Ft3.out.next aw9)
      have t4_9 := Hid.mk' (Ft4.out.next aw9)
      have t5_9 := Hid.mk' (Ft5.out.next aw9)
      have t7_9 := Hid.mk' (Ft7.out.next aw9)
      have t8_9 := Hid.mk' (Ft8.out.next aw9)
      have t12_9 := Hid.mk' (Ft12.out.next aw9)
      have HC_9 := Hid.mk' (code_next HCz.out aw9)
      have HB_9 := Hid.mk' (below_next HBz.out aw9)
      clear f0 f1 f6 HBz HCz Ft3 Ft4 Ft5 Ft7 Ft8 Ft12 Ft14 hbw9 zw9 aw9
      have t3c := t3_9.out.c0
      have t3d := t3_9.out.c1
      have t3l := t3_9.out.lt
      have t4c := t4_9.out.c0
      have t4d := t4_9.out.c1
      have t4l := t4_9.out.lt
      have t5c := t5_9.out.c0
      have t5d := t5_9.out.c1
      have t5l := t5_9.out.lt
      have t7c := t7_9.out.c0
      have t7d := t7_9.out.c1
      have t7l := t7_9.out.lt
      have t8c := t8_9.out.c0
      have t8d := t8_9.out.c1
      have t8l := t8_9.out.lt
      have t12c := t12_9.out.c0
      have t12d := t12_9.out.c1
      have t12l := t12_9.out.lt
      rcases HA.out with ⟨rfl, rfl, rfl⟩ | ⟨rfl, hst, hm⟩
      · clear HA hff
        go_wp2_with (fail)
        go_ret
        exact ⟨rfl, HB_9.out⟩
      · have HM := Hid.mk' hm
        have cu := impl_PointOk u v
        rw [hst] at cu
        have CU := Hid.mk' cu
        clear HA hff hst hm cu
        go_wp2_with (fail)
        refine (Dr.pick_any _ _ _ _ _ _ _ HC_9.out (by omega) (by decide) (by decide) (by decide)).mono ?_
        rintro e wp ⟨kk, kk0, kk1, rfl, rfl⟩
        obtain ⟨kn, rfl⟩ := Int.eq_ofNat_of_zero_le kk0
        obtain ⟨cc, dd, hcd, ct⟩ := curveT kn (by omega)
        obtain ⟨m1, m2, o1, o2, g1, g2, g3, g4, g5⟩ := HM.out cc dd hcd
        have CT := Hid.mk' ct
        have G1 := Hid.mk' g1
        have G2 := Hid.mk' g2
        have G3 := Hid.mk' g3
        have G4 := Hid.mk' g4
        have G5 := Hid.mk' g5
        clear ct g1 g2 g3 g4 g5 hcd HM
        go_wp2_with (fail)
        refine (impl_Base _).mono ?_
        rintro e w10 ⟨rfl, hb⟩
        clear t3c t3d t3l t4c t4d t4l t5c t5d t5l t7c t7d t7l t8c t8d t8l t12c t12d t12l
        have t3_10 := Hid.mk' (t3_9.out.next hb)
        clear t3_9
        have t4_10 := Hid.mk' (t4_9.out.next hb)
        clear t4_9
        have t5_10 := Hid.mk' (t5_9.out.next hb)
        clear t5_9
        have t7_10 := Hid.mk' (t7_9.out.next hb)
        clear t7_9
        have t8_10 := Hid.mk' (t8_9.out.next hb)
        clear t8_9
        have t12_10 := Hid.mk' (t12_9.out.next hb)
        clear t12_9
        have HC_10 := Hid.mk' (code_next HC_9.out hb)
        have HB_10 := Hid.mk' (below_next HB_9.out hb)
        clear HC_9 HB_9 hb
        have t3c := t3_10.out.c0
        have t3d := t3_10.out.c1
        have t3l := t3_10.out.lt
        have t4c := t4_10.out.c0
        have t4d := t4_10.out.c1
        have t4l := t4_10.out.lt
        have t5c := t5_10.out.c0
        have t5d := t5_10.out.c1
        have t5l := t5_10.out.lt
        have t7c := t7_10.out.c0
        have t7d := t7_10.out.c1
        have t7l := t7_10.out.lt
        have t8c := t8_10.out.c0
        have t8d := t8_10.out.c1
        have t8l := t8_10.out.lt
        have t12c := t12_10.out.c0
        have t12d := t12_10.out.c1
        have t12l := t12_10.out.lt
        go_wp2_with (fail)
        refine (CT.out _).mono ?_
        rintro e w11 ⟨rfl, hb⟩
        clear t3c t3d t3l t4c t4d t4l t5c t5d t5l t7c t7d t7l t8c t8d t8l t12c t12d t12l
        have t3_11 := Hid.mk' (t3_10.out.next hb)
        clear t3_10
        have t4_11 := Hid.mk' (t4_10.out.next hb)
        clear t4_10
        have t5_11 := Hid.mk' (t5_10.out.next hb)
        clear t5_10
        have t7_11 := Hid.mk' (t7_10.out.next hb)
        clear t7_10
        have t8_11 := Hid.mk' (t8_10.out.next hb)
        clear t8_10
        have t12_11 := Hid.mk' (t12_10.out.next hb)
        clear t12_10
        have HC_11 := Hid.mk' (code_next HC_10.out hb)
        have HB_11 := Hid.mk' (below_next HB_10.out hb)
        clear HC_10 HB_10 hb
        have t3c := t3_11.out.c0
        have t3d := t3_11.out.c1
        have t3l := t3_11.out.lt
        have t4c := t4_11.out.c0
        have t4d := t4_11.out.c1
        have t4l := t4_11.out.lt
        have t5c := t5_11.out.c0
        have t5d := t5_11.out.c1
        have t5l := t5_11.out.lt
        have t7c := t7_11.out.c0
        have t7d := t7_11.out.c1
        have t7l := t7_11.out.lt
        have t8c := t8_11.out.c0
        have t8d := t8_11.out.c1
        have t8l := t8_11.out.lt
        have t12c := t12_11.out.c0
        have t12d := t12_11.out.c1
        have t12l := t12_11.out.lt
        go_wp2_with (fail)
        refine (G1.out _).mono ?_
        rintro e w12 ⟨rfl, hb⟩
        clear t3c t3d t3l t4c t4d t4l t5c t5d t5l t7c t7d t7l t8c t8d t8l t12c t12d t12l
        have t3_12 := Hid.mk' (t3_11.out.step hb)
        clear t3_11
        have t4_12 := Hid.mk' (t4_11.out.step hb)
        clear t4_11
        have t5_12 := Hid.mk' (t5_11.out.step hb)
        clear t5_11
        have t7_12 := Hid.mk' (t7_11.out.step hb)
        clear t7_11
        have t8_12 := Hid.mk' (t8_11.out.step hb)
        clear t8_11
        have t12_12 := Hid.mk' (t12_11.out.step hb)
        clear t12_11
        have t16_12 := Hid.mk' (Tw.fresh (x := (cc : Int)) (y := (dd : Int)) hb)
        have HC_12 := Hid.mk' (code_step HC_11.out hb)
        have HB_12 := Hid.mk' (below_step HB_11.out hb)
        clear HC_11 HB_11 hb
        have t3c := t3_12.out.c0
        have t3d := t3_12.out.c1
        have t3l := t3_12.out.lt
        have t4c := t4_12.out.c0
        have t4d := t4_12.out.c1
        have t4l := t4_12.out.lt
        have t5c := t5_12.out.c0
        have t5d := t5_12.out.c1
        have t5l := t5_12.out.lt
        have t7c := t7_12.out.c0
        have t7d := t7_12.out.c1
        have t7l := t7_12.out.lt
        have t8c := t8_12.out.c0
        have t8d := t8_12.out.c1
        have t8l := t8_12.out.lt
        have t12c := t12_12.out.c0
        have t12d := t12_12.out.c1
        have t12l := t12_12.out.lt
        have t16c := t16_12.out.c0
        have t16d := t16_12.out.c1
        have t16l := t16_12.out.lt
        go_wp2_with (fail)
        refine (G2.out _).mono ?_
        rintro e w13 ⟨rfl, hb⟩
        clear t3c t3d t3l t4c t4d t4l t5c t5d t5l t7c t7d t7l t8c t8d t8l t12c t12d t12l t16c t16d t16l
        have t3_13 := Hid.mk' (t3_12.out.step hb)
        clear t3_12
        have t4_13 := Hid.mk' (t4_12.out.step hb)
        clear t4_12
        have t5_13 := Hid.mk' (t5_12.out.step hb)
        clear t5_12
        have t7_13 := Hid.mk' (t7_12.out.step hb)
        clear t7_12
        have t8_13 := Hid.mk' (t8_12.out.step hb)
        clear t8_12
        have t12_13 := Hid.mk' (t12_12.out.step hb)
        clear t12_12
        have t16_13 := Hid.mk' (t16_12.out.step hb)
        clear t16_12
        have t18_13 := Hid.mk' (Tw.fresh (x := m1) (y := m2) hb)
        have HC_13 := Hid.mk' (code_step HC_12.out hb)
        have HB_13 := Hid.mk' (below_step HB_12.out hb)
        clear HC_12 HB_12 hb
        have t3c := t3_13.out.c0
        have t3d := t3_13.out.c1
        have t3l := t3_13.out.lt
        have t4c := t4_13.out.c0
        have t4d := t4_13.out.c1
        have t4l := t4_13.out.lt
        have t5c := t5_13.out.c0
        have t5d := t5_13.out.c1
        have t5l := t5_13.out.lt
        have t7c := t7_13.out.c0
        have t7d := t7_13.out.c1
        have t7l := t7_13.out.lt
        have t8c := t8_13.out.c0
        have t8d := t8_13.out.c1
        have t8l := t8_13.out.lt
        have t12c := t12_13.out.c0
        have t12d := t12_13.out.c1
        have t12l := t12_13.out.lt
        have t16c := t16_13.out.c0
        have t16d := t16_13.out.c1
        have t16l := t16_13.out.lt
        have t18c := t18_13.out.c0
        have t18d := t18_13.out.c1
        have t18l := t18_13.out.lt
        go_wp2_with (fail)
        refine (G3.out _).mono ?_
        rintro e w14 ⟨rfl, hb⟩
        clear t3c t3d t3l t4c t4d t4l t5c t5d t5l t7c t7d t7l t8c t8d t8l t12c t12d t12l t16c t16d t16l t18c t18d t18l
        have t3_14 := Hid.mk' (t3_13.out.step hb)
        clear t3_13
        have t4_14 := Hid.mk' (t4_13.out.step hb)
        clear t4_13
        have t5_14 := Hid.mk' (t5_13.out.step hb)
        clear t5_13
        have t7_14 := Hid.mk' (t7_13.out.step hb)
        clear t7_13
        have t8_14 := Hid.mk' (t8_13.out.step hb)
        clear t8_13
        have t12_14 := Hid.mk' (t12_13.out.step hb)
        clear t12_13
        have t16_14 := Hid.mk' (t16_13.out.step hb)
        clear t16_13
        have t18_14 := Hid.mk' (t18_13.out.step hb)
        clear t18_13
        have t20_14 := Hid.mk' (Tw.fresh (x := o1) (y := o2) hb)
        have HC_14 := Hid.mk' (code_step HC_13.out hb)
        have HB_14 := Hid.mk' (below_step HB_13.out hb)
        clear HC_13 HB_13 hb
        have t3c := t3_14.out.c0
        have t3d := t3_14.out.c1
        have t3l := t3_14.out.lt
        have t4c := t4_14.out.c0
        have t4d := t4_14.out.c1
        have t4l := t4_14.out.lt
        have t5c := t5_14.out.c0
        have t5d := t5_14.out.c1
        have t5l := t5_14.out.lt
        have t7c := t7_14.out.c0
        have t7d := t7_14.out.c1
        have t7l := t7_14.out.lt
        have t8c := t8_14.out.c0
        have t8d := t8_14.out.c1
        have t8l := t8_14.out.lt
        have t12c := t12_14.out.c0
        have t12d := t12_14.out.c1
        have t12l := t12_14.out.lt
        have t16c := t16_14.out.c0
        have t16d := t16_14.out.c1
        have t16l := t16_14.out.lt
        have t18c := t18_14.out.c0
        have t18d := t18_14.out.c1
        have t18l := t18_14.out.lt
        have t20c := t20_14.out.c0
        have t20d := t20_14.out.c1
        have t20l := t20_14.out.lt
        go_wp2_with (fail)
        refine (G4.out _).mono ?_
        rintro e w15 ⟨rfl, hb⟩
        clear t3c t3d t3l t4c t4d t4l t5c t5d t5l t7c t7d t7l t8c t8d t8l t12c t12d t12l t16c t16d t16l t18c t18d t18l t20c t20d t20l
        have t3_15 := Hid.mk' (t3_14.out.step hb)
        clear t3_14
        have t4_15 := Hid.mk' (t4_14.out.step hb)
        clear t4_14
        have t5_15 := Hid.mk' (t5_14.out.step hb)
        clear t5_14
        have t7_15 := Hid.mk' (t7_14.out.step hb)
        clear t7_14
        have t8_15 := Hid.mk' (t8_14.out.step hb)
        clear t8_14
        have t12_15 := Hid.mk' (t12_14.out.step hb)
        clear t12_14
        have t16_15 := Hid.mk' (t16_14.out.step hb)
        clear t16_14
        have t18_15 := Hid.mk' (t18_14.out.step hb)
        clear t18_14
        have t20_15 := Hid.mk' (t20_14.out.step hb)
        clear t20_14
        have t22_15 := Hid.mk' (Tw.fresh (x := o1) (y := o2) hb)
        have HC_15 := Hid.mk' (code_step HC_14.out hb)
        have HB_15 := Hid.mk' (below_step HB_14.out hb)
        clear HC_14 HB_14 hb
        have t3c := t3_15.out.c0
        have t3d := t3_15.out.c1
        have t3l := t3_15.out.lt
        have t4c := t4_15.out.c0
        have t4d := t4_15.out.c1
        have t4l := t4_15.out.lt
        have t5c := t5_15.out.c0
        have t5d := t5_15.out.c1
        have t5l := t5_15.out.lt
        have t7c := t7_15.out.c0
        have t7d := t7_15.out.c1
        have t7l := t7_15.out.lt
        have t8c := t8_15.out.c0
        have t8d := t8_15.out.c1
        have t8l := t8_15.out.lt
        have t12c := t12_15.out.c0
        have t12d := t12_15.out.c1
        have t12l := t12_15.out.lt
        have t16c := t16_15.out.c0
        have t16d := t16_15.out.c1
        have t16l := t16_15.out.lt
        have t18c := t18_15.out.c0
        have t18d := t18_15.out.c1
        have t18l := t18_15.out.lt
        have t20c := t20_15.out.c0
        have t20d := t20_15.out.c1
        have t20l := t20_15.out.lt
        have t22c := t22_15.out.c0
        have t22d := t22_15.out.c1
        have t22l := t22_15.out.lt
        go_upto_region 24 with fail
        have Ft3 : Hid (Tw (w15.alloc (.cells #[.int .i64 u, .int .i64 v] 25)) bt3 x y) := Hid.mk' (Tw.old t3_15.out)
        have Ft5 : Hid (Tw (w15.alloc (.cells #[.int .i64 u, .int .i64 v] 25)) bt5 u v) := Hid.mk' (Tw.old t5_15.out)
        have Ft20 : Hid (Tw (w15.alloc (.cells #[.int .i64 u, .int .i64 v] 25)) w13.heap.size o1 o2) := Hid.mk' (Tw.old t20_15.out)
        have Ft22 : Hid (Tw (w15.alloc (.cells #[.int .i64 u, .int .i64 v] 25)) w14.heap.size o1 o2) := Hid.mk' (Tw.old t22_15.out)
        have Ft24 : Hid (Tw (w15.alloc (.cells #[.int .i64 u, .int .i64 v] 25)) w15.heap.size u v) := Hid.mk' (Tw.newAt rfl)
        have HBz := Hid.mk' (below_old (o := (.cells #[.int .i64 u, .int .i64 v] 25)) HB_15.out)
        clear t3c t3d t3l t3_15 t4c t4d t4l t4_15 t5c t5d t5l t5_15 t7c t7d t7l t7_15 t8c t8d t8l t8_15 t12c t12d t12l t12_15 t16c t16d t16l t16_15 t18c t18d t18l t18_15 t20c t20d t20l t20_15 t22c t22d t22l t22_15 HB_15 HC_15
        generalize (w15.alloc (.cells #[.int .i64 u, .int .i64 v] 25)) = wx at Ft3 Ft5 Ft20 Ft22 Ft24 HBz ⊢
        have f0 := Ft3.out.c0
        have f1 := Ft3.out.c1
        have f2 := Ft3.out.lt
        have f3 : bt3 < wx.heap.size + 1 := by omega
        have f4 : ¬ bt3 = wx.heap.size := by omega
        go_cut [26, 27] from 28 to 165 (fun s26 s27 wq => ∃ tb : Nat, s26 = .pointer (some ⟨tb, 0, none⟩) ∧ s27 = .bool true ∧ Tw wq tb x y ∧ Below wx.heap.size wx wq)
        case first =>
          go_region_with (first
            | (go_at_call 14; refine (impl_Nought _).mono ?_; rintro e wN ⟨rfl, hbN⟩; have EN : Tw wN bt3 x y := (by first | (with_reducible exact (twd Ft3.out).next hbN) | (with_reducible exact (twd Ft3.out).step hbN) | (with_reducible exact (twd Ft3.out.old).next hbN)); have eN0 := EN.c0; have eN1 := EN.c1; have eN2 := EN.lt; clear EN; obtain ⟨hcN, hfN⟩ := bcell hbN; have zN0 : wx.heap.size ≤ wN.heap.size := (by have := hbN.size; (try simp at this); omega); have zN1 : bt3 < wN.heap.size := (by omega); have zN2 : bt3 < wN.heap.size + 1 := (by omega); (try have zN3 : wx.heap.size < wN.heap.size := (by have := hbN.size; (try simp at this); omega)))
            | (go_at_call 8; refine (G5.out _).mono ?_; rintro e wM ⟨rfl, hbM⟩; obtain ⟨hcM, hfM⟩ := bcell hbM; have zM0 : wx.heap.size ≤ wM.heap.size := (by have := hbM.size; (try simp at this); omega); (try have zM3 : wx.heap.size < wM.heap.size := (by have := hbM.size; (try simp at this); omega)); (try have zM4 : wN.heap.size < wM.heap.size := (by have := hbM.size; (try simp at this); omega))))
          all_goals
            go_wp2_with fail
            go_meet
            have bN : Below wx.heap.size wx wN := by
              first
                | exact (Below.refl wx.heap.size wx).drew.trans (hbN.mono (B' := wx.heap.size) (by (try simp); (try omega)))
                | exact ((Below.refl wx.heap.size wx).drew.alloc (by (try simp); (try omega)) _).trans (hbN.mono (B' := wx.heap.size) (by (try simp); (try omega)))
                | exact ((Below.refl wx.heap.size wx).alloc (by (try simp); (try omega)) _).drew.trans (hbN.mono (B' := wx.heap.size) (by (try simp); (try omega)))
            have sN := bN.size
            have bM : Below wx.heap.size wx wM := by
              first
                | exact bN.trans (hbM.mono (B' := wx.heap.size) (by (try simp at sN); (try simp); (try omega)))
                | exact (bN.alloc (by (try simp at sN); omega) _).trans (hbM.mono (B' := wx.heap.size) (by (try simp at sN); simp; omega))
            have sM := bM.size
            (try simp at sN sM)
            first
              | exact ⟨_, rfl, rfl, Tw.newAt rfl, bM.alloc (by omega) _⟩
              | exact ⟨_, rfl, rfl, Tw.put (v0 := .int .i64 0) (v1 := .int .i64 0) (by omega) (by first | (simp [*]; done) | (simp [*]; exact (Tw.newAt (by simp)).c0)) (by first | (simp [*]; done) | (simp [*]; exact (Tw.newAt (by simp)).c1)), (bM.setCell (by (try simp); (try omega)) _).setCell (by (try simp); (try omega)) _⟩
        case rest =>
          obtain ⟨tb, rfl, rfl, hT, hB⟩ := hcut
          have n26 := hT.c0
          have n27 := hT.c1
          have HB := Hid.mk' hB
          have e3 := Ft3.out.next hB
          have e5 := Ft5.out.next hB
          have e20 := Ft20.out.next hB
          have e22 := Ft22.out.next hB
          have e24 := Ft24.out.next hB
          have n0 := e3.c0
          have n1 := e3.c1
          have n2 := e5.c0
          have n3 := e5.c1
          have n4 := e20.c0
          have n5 := e20.c1
          have n6 := e22.c0
          have n7 := e22.c1
          have n8 := e24.c0
          have n9 := e24.c1
          have HE3 := Hid.mk' e3
          have HE5 := Hid.mk' e5
          have HE20 := Hid.mk' e20
          have HE22 := Hid.mk' e22
          have HE24 := Hid.mk' e24
          have HE26 := Hid.mk' hT
          clear f0 f1 f2 f3 f4 hT hB e3 e5 e20 e22 e24
          go_wp2_with (fail)
          refine (CU.out _).mono ?_
          rintro e wl ⟨rfl, hbl⟩
          have l3 := HE3.out.next hbl
          have l5 := HE5.out.next hbl
          have l20 := HE20.out.next hbl
          have l22 := HE22.out.next hbl
          have l24 := HE24.out.next hbl
          have l26 := HE26.out.next hbl
          have p0 := l3.c0
          have p1 := l3.c1
          have p2 := l5.c0
          have p3 := l5.c1
          have p4 := l20.c0
          have p5 := l20.c1
          have p6 := l22.c0
          have p7 := l22.c1
          have p8 := l24.c0
          have p9 := l24.c1
          have pa := l26.c0
          have pb := l26.c1
          have HBL := Hid.mk' hbl
          clear l3 l5 l20 l22 l24 l26 n0 n1 n2 n3 n4 n5 n6 n7 n8 n9 n26 n27 hbl
          go_wp2_with (fail)
          go_ret
          exact ⟨rfl, below_next (below_next HBz.out HB.out) HBL.out⟩

set_option maxRecDepth 100000 in
theorem lifted (os : Os) (started : os.Started) (H : Type) (enc : TypeId × Value → H) :
    ReturnsInHanded {} Try.checked os 3 .any (Rows.fnCurveSpec.pre6 enc Try.prog Try.f3 Rows.fnCurveRow.domain false) (Rows.fnCurveSpec.post enc Try.prog Try.f3 false true false false) := by
  refine returnsInHanded_of_change (C := Try.checked) own started (by kernel_rfl) Try.func3
    (ChangeSpec.witness6 (enc := enc) (C := Try.checked) false ⟨#[], #[.slice none 0 0], []⟩ 8 (by kernel_rfl) (by kernel_rfl) (by kernel_rfl) (by kernel_rfl)) ?_
  intro W base args ds gs before hval0 hW hcnd _
  have hval : ∀ (j : Nat) t v, Try.f3.params[j]? = some t → args[j]? = some v → Value.okWide Try.prog W .any base t v := hval0
  have hW' := hW
  obtain ⟨p, q, hA0, hV, rfl, hfz, hnd⟩ := hW
  have hA : DataW.TrodAll enc Try.prog W 0 (fun _ => true) true Try.f3.params.toList args.toList ds p := hA0
  rw [Try.params3] at hA hval
  obtain ⟨v0, vs0, d0, ds0, p0, q0, hargs, rfl, rfl, h0, r0⟩ := trodAll_cons hA
  obtain ⟨rfl, rfl, rfl⟩ := trodAll_nil r0
  obtain rfl : args = #[v0] := by cases args; simp_all
  obtain ⟨rfl, rfl⟩ := trodVars_none hV
  obtain ⟨a0, len0, cap0, rfl⟩ := okWide_slice Try.underlying22 (hval 0 22 v0 rfl rfl)
  have k0 := h0
  have lt0 : ∀ x ∈ p0, x.block < W.heap.size := by obtain ⟨m, hm⟩ := k0; exact DataW.trod_lt m _ _ _ hm
  obtain ⟨z0, w0⟩ : ∃ zs, IsRow .u8 W a0 len0 cap0 zs := by
    obtain ⟨fuel, hf⟩ := h0
    rcases open_ints Try.underlying22 Try.underlying5 (by kernel_rfl) hf with ⟨hcs, _⟩ | ⟨x, l, c, zs, hcs, _, hl, hm, hz, _, hcell, hwz⟩
    · simp [Value.cells] at hcs
      obtain ⟨rfl, rfl, rfl⟩ := hcs
      exact ⟨[], .inl ⟨rfl, rfl, rfl, rfl⟩⟩
    · simp [Value.cells] at hcs
      obtain ⟨rfl, rfl, rfl⟩ := hcs
      exact ⟨zs, .inr ⟨_, rfl, hl, hm, by simpa using hz, hcell, hwz⟩⟩
  clear hA0 hval0
  refine (walk a0 len0 cap0 z0 W w0).mono fun e W' ⟨he, bel⟩ => ?_
  subst he
  exact ⟨_, rfl, _, _, _, [], _, [], hW', trodAll_mk1 (shut_bool Try.underlying4 _), (trodAll_cons_mk (Below.trod laidOut (by kernel_rfl) (of_decide_eq_true (by kernel_rfl)) k0 bel lt0) trodAll_mk0), rfl, bel.frame _, fun h => by cases h⟩

theorem over : Rows.fnCurveRow.holds Try.pinned (OpenSpec.ofChange Rows.fnCurveSpec) :=
  OpenClaim.holds_of_wide 3 Try.f3 rfl rfl rfl rfl rfl rfl rfl ⟨rfl, rfl, rfl, rfl, rfl⟩ rfl rfl rfl rfl rfl (by kernel_rfl) Try.func3 (by kernel_rfl)
    (of_decide_eq_true (by kernel_rfl)) (by unfold Func.isWrapper; first | (rw [if_pos (by decide +kernel)]; kernel_rfl) | (rw [if_neg (by decide +kernel)]; exact ⟨rfl, rfl⟩))
    (fun os started H enc _ => lifted os started H enc)
end Go.Proofs.Ytbjmijajngedoaa.fnCurve
namespace Go.Proofs.Ytbjmijajngedoaa
theorem fnCurve_holds : Rows.FnCurveSaid := fnCurve.over
#print axioms fnCurve_holds
end Go.Proofs.Ytbjmijajngedoaa
