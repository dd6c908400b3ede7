/-
  Times, of the specification and of the program.
-/
import Derived.Test.YtllajhieocploaaGreatDoorCurveS
import Derived.Test.YtllajhieocploaaGreatDoorCurveT
namespace Go.Proofs.YtllajhieocploaaGreatDoor.Cv
open Go.ChangeShapes Go.WideShapes Go.ChangeAt Go.RowKit
open Cu
/-- What lies in memory round by round in the specification's text: m is left, d is next, r is the sum so far. -/
structure Lq (w wx : World) (p : Nat × Nat) (n tb m : Nat) (d r : Nat × Nat) : Prop where
  a : Two wx w.heap.size d
  su : Two wx tb r
  res : Two wx (w.heap.size + 1) (0, 0)
  old : Below w.heap.size w wx
  okd : okN d = true
  okr : okN r = true
  eq : adN r (ns d m) = ns p n
set_option maxHeartbeats 4000000 in
theorem l2Times_any (a b n : Nat) (w : World) (h : okN (a, b) = true) (hn : n ≤ 1099511627776) :
    Calls Tryz.prog 106 #[.int .i64 n, .agg #[.int .i64 a, .int .i64 b]] w fun e w' => e = .returned (.agg #[.int .i64 (ns (a, b) n).1, .int .i64 (ns (a, b) n).2]) ∧ Below w.heap.size w w' := by
  have HK : Hid (okN (a, b) = true) := h
  clear h
  go_enter Tryz.func106, Tryz.ntmps106
  go_wp2_with (fail)
  refine (spec_Nought _).mono ?_
  rintro e w1 ⟨rfl, hb1⟩
  have hz1 : w.heap.size + 1 < w1.heap.size := by have := hb1.size; simp at this; omega
  have HB := Hid.mk' hb1
  clear hb1
  have A0 := Hid.mk' (((Two.newAt (w := w) (x := a) (y := b) rfl).alloc _).kept HB.out (by simp; omega))
  have R0 := Hid.mk' ((Two.newAt (x := 0) (y := 0) (by simp)).kept (b := w.heap.size + 1) HB.out (by simp))
  have O0 := Hid.mk' ((((Below.refl w.heap.size w).alloc (Nat.le_refl _) _).alloc (by simp) _).trans (HB.out.mono (B' := w.heap.size) (by simp; omega)))
  go_wp2_with (fail)
  go_loopw [0] (fun y wx => ∃ m d0 d1 r0 r1 : Nat, y = .int .i64 m ∧ m ≤ 1099511627776 ∧ Lq w wx (a, b) n w1.heap.size m (d0, d1) (r0, r1)) (fun y _ => (intOf y).toNat)
  case atStart => exact ⟨n, a, b, 0, 1, rfl, hn, A0.out.alloc _, Two.newAt (x := 0) (y := 1) rfl, R0.out.alloc _, O0.out.alloc (by omega) _, HK.out, ok_nought, nought_ad (ok_el (ns_ok HK.out n))⟩
  case round =>
    clear A0 R0 O0 HB
    generalize w1.heap.size = tb at hz1 hrel ⊢
    clear w1
    obtain ⟨m, d0, d1, r0, r1, rfl, hm, hL⟩ := hrel
    have HL := Hid.mk' hL
    have x0 := hL.su.c0
    have x1 := hL.su.c1
    have x2 := hL.su.f0
    have x3 := hL.su.f1
    have x4 := hL.su.lt
    have y0 := hL.a.c0
    have y1 := hL.a.c1
    have y2 := hL.a.f0
    have y3 := hL.a.f1
    have y4 := hL.a.lt
    have v0 := hL.res.c0
    have v1 := hL.res.c1
    have v2 := hL.res.f0
    have v3 := hL.res.f1
    have v4 := hL.res.lt
    dsimp only at x0 x1 y0 y1 v0 v1
    clear hL
    have hne : ¬ tb = w.heap.size := by omega
    have hne' : ¬ w.heap.size = tb := by omega
    have hne2 : ¬ w.heap.size + 1 = tb := by omega
    by_cases hz : 0 < m
    · by_cases ho : m % 2 = 1
      · have hp : ((m : Int) % 2 == 1) = true := by simp; omega
        go_wp2_with (fail)
        refine (l2Added_any r0 r1 d0 d1 _ (ok_el HL.out.okr).1 (ok_el HL.out.okr).2 (ok_el HL.out.okd).1 (ok_el HL.out.okd).2).mono ?_
        rintro e w2 ⟨rfl, hb⟩
        have HK2 := Hid.mk' hb
        have q := HL.out.a.kept hb y4
        have z0 := q.c0
        have z1 := q.c1
        have z2 := q.f0
        have z3 := q.f1
        have z4 := q.lt
        have q := HL.out.su.kept hb x4
        have s0 := q.c0
        have s1 := q.c1
        have s2 := q.f0
        have s3 := q.f1
        have s4 := q.lt
        dsimp only at z0 z1 s0 s1
        clear q hb
        go_wp2_with (fail)
        refine (l2Added_any d0 d1 d0 d1 _ (ok_el HL.out.okd).1 (ok_el HL.out.okd).2 (ok_el HL.out.okd).1 (ok_el HL.out.okd).2).mono ?_
        rintro e w3 ⟨rfl, hb3⟩
        have HB3 := Hid.mk' hb3
        have t1 := Hid.mk' ((((HL.out.a.kept HK2.out y4).far (i := 0) (v := .int .i64 (adN (r0, r1) (d0, d1)).1) hne').far (i := 1) (v := .int .i64 (adN (r0, r1) (d0, d1)).2) hne').kept hb3 (by simp [World.setCell]; omega))
        have t2 := Hid.mk' (((HL.out.su.kept HK2.out x4).put (q := adN (r0, r1) (d0, d1))).kept hb3 (by simp [World.setCell]; omega))
        have t3 := Hid.mk' ((((HL.out.res.kept HK2.out v4).far (i := 0) (v := .int .i64 (adN (r0, r1) (d0, d1)).1) hne2).far (i := 1) (v := .int .i64 (adN (r0, r1) (d0, d1)).2) hne2).kept hb3 (by have := HK2.out.size; simp [World.setCell]; omega))
        have g0 := t1.out.c0
        have g1 := t1.out.c1
        have g2 := t1.out.f0
        have g3 := t1.out.f1
        have g4 := t1.out.lt
        dsimp only at g0 g1
        clear hb3
        go_wp2_with (fail)
        refine ⟨⟨m / 2, (adN (d0, d1) (d0, d1)).1, (adN (d0, d1) (d0, d1)).2, (adN (r0, r1) (d0, d1)).1, (adN (r0, r1) (d0, d1)).2, by simp, by omega, ?_⟩, by simp [intOf]; omega⟩
        have u1 := t1.out.put (q := adN (d0, d1) (d0, d1))
        have u2 := (t2.out.far (i := 0) (v := .int .i64 (adN (d0, d1) (d0, d1)).1) hne).far (i := 1) (v := .int .i64 (adN (d0, d1) (d0, d1)).2) hne
        have u3 := (t3.out.far (c := w.heap.size) (i := 0) (v := .int .i64 (adN (d0, d1) (d0, d1)).1) (by omega)).far (c := w.heap.size) (i := 1) (v := .int .i64 (adN (d0, d1) (d0, d1)).2) (by omega)
        have o1 := (((HL.out.old.trans (HK2.out.mono (B' := w.heap.size) (by omega))).setCell (p := ⟨tb, 0, none⟩) (by simp; omega) (.int .i64 (adN (r0, r1) (d0, d1)).1)).setCell (p := ⟨tb, 1, none⟩) (by simp; omega) (.int .i64 (adN (r0, r1) (d0, d1)).2)).trans (HB3.out.mono (B' := w.heap.size) (by have := HK2.out.size; simp [World.setCell]; omega))
        exact ⟨u1, u2, u3, (o1.setCell (by simp) _).setCell (by simp) _, ad_ok HL.out.okd HL.out.okd, ad_ok HL.out.okr HL.out.okd, (ns_odd HL.out.okr HL.out.okd m ho).trans HL.out.eq⟩
      · have hp : ((m : Int) % 2 == 1) = false := by simp; omega
        go_wp2_with (fail)
        refine (l2Added_any d0 d1 d0 d1 _ (ok_el HL.out.okd).1 (ok_el HL.out.okd).2 (ok_el HL.out.okd).1 (ok_el HL.out.okd).2).mono ?_
        rintro e w3 ⟨rfl, hb3⟩
        have HB3 := Hid.mk' hb3
        have t1 := Hid.mk' (HL.out.a.kept hb3 y4)
        have t2 := Hid.mk' (HL.out.su.kept hb3 x4)
        have t3 := Hid.mk' (HL.out.res.kept hb3 v4)
        have g0 := t1.out.c0
        have g1 := t1.out.c1
        have g2 := t1.out.f0
        have g3 := t1.out.f1
        have g4 := t1.out.lt
        dsimp only at g0 g1
        clear hb3
        go_wp2_with (fail)
        refine ⟨⟨m / 2, (adN (d0, d1) (d0, d1)).1, (adN (d0, d1) (d0, d1)).2, r0, r1, by simp, by omega, ?_⟩, by simp [intOf]; omega⟩
        have u1 := t1.out.put (q := adN (d0, d1) (d0, d1))
        have u2 := (t2.out.far (i := 0) (v := .int .i64 (adN (d0, d1) (d0, d1)).1) hne).far (i := 1) (v := .int .i64 (adN (d0, d1) (d0, d1)).2) hne
        have u3 := (t3.out.far (c := w.heap.size) (i := 0) (v := .int .i64 (adN (d0, d1) (d0, d1)).1) (by omega)).far (c := w.heap.size) (i := 1) (v := .int .i64 (adN (d0, d1) (d0, d1)).2) (by omega)
        have o1 := HL.out.old.trans (HB3.out.mono (B' := w.heap.size) (by omega))
        exact ⟨u1, u2, u3, (o1.setCell (by simp) _).setCell (by simp) _, ad_ok HL.out.okd HL.out.okd, HL.out.okr, (ns_even HL.out.okd m (by omega)).trans HL.out.eq⟩
    · have hm0 : m = 0 := by omega
      have er : Hid (ns (a, b) n = (r0, r1)) := Hid.mk' (by rw [← HL.out.eq, hm0]; exact ad_nought (ok_el HL.out.okr))
      clear hm0
      go_wp2_with (fail)
      refine bodyPost_ret (v := .agg #[.int .i64 r0, .int .i64 r1]) ?_ rfl ⟨by rw [er.out], ?_⟩
      · have t3 := HL.out.res.put (q := (r0, r1))
        dsimp only at t3
        refine ret_via t3 (fun w2 k => ?_)
        have k0 := k.c0
        have k1 := k.c1
        dsimp only at k0 k1
        clear t3 k x0 x1 x2 x3 y0 y1 y2 y3 v0 v1 v2 v3
        simp [results, Tryz.results106, go_sem, k0, k1]
      · exact (HL.out.old.setCell (by simp) _).setCell (by simp) _
end Go.Proofs.YtllajhieocploaaGreatDoor.Cv
