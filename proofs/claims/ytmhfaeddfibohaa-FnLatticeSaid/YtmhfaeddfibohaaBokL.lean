/-
  What the Draws of chapter 11 answer, whatever the bytes.
-/
import Derived.Test.YtmhfaeddfibohaaBokG
namespace Go.Proofs.Ytmhfaeddfibohaa.En
open Go.ChangeShapes Go.WideShapes Go.ChangeAt Go.RowKit
open Dr
set_option linter.unusedVariables false
set_option maxRecDepth 100000 in
set_option maxHeartbeats 4000000 in
theorem DrawBookOk_any (a : Option Addr) (len cap : Nat) (w : World) (hc : Dr.Code w.heap.size w a len) (hl : len ≤ 4096) :
    Calls Try.prog 51 #[.slice a len cap] w fun e w' => ∃ v L, e = .returned v ∧ Tame L ∧ Own w' w.heap.size v L ∧ Below w.heap.size w w' := by
  have HC := hidIt hc
  clear hc
  go_enter Try.func51, Try.ntmps51
  go_wp2_with (fail)
  refine (l1New_any _ a len cap _ (Nat.le_refl _) HC.out hl).mono ?_
  rintro e w1 ⟨c, rfl, hC1, k1⟩
  have HC1 := hidIt hC1
  have HB := hidIt k1
  clear hC1 k1
  go_wp2_with (fail)
  refine (l11DrawAny_any _ c a len cap _ HC1.out).mono ?_
  rintro e w2 ⟨v, L, rfl, t2, o2, hC2, hO2⟩
  have HO := hidIt (o2.mono HB.out.size)
  have HB2 := hidIt (HB.out.trans (hO2.below (B := w.heap.size) HC1.out.here HB.out.size))
  have HT := hidIt t2
  clear t2 o2 hC2 hO2
  go_wp2_with (fail)
  go_ret
  first | exact ⟨_, L, rfl, HT.out, HO.out, HB2.out⟩ | exact ⟨_, rfl, L, HT.out, HO.out, HB2.out⟩
set_option maxRecDepth 100000 in
set_option maxHeartbeats 4000000 in
theorem DrawAlive_any (a : Option Addr) (len cap : Nat) (w : World) (hc : Dr.Code w.heap.size w a len) (hl : len ≤ 4096) :
    Calls Try.prog 25 #[.slice a len cap] w fun e w' => ∃ v L, e = .returned v ∧ Tame L ∧ Own w' w.heap.size v L ∧ Below w.heap.size w w' := by
  have HC := hidIt (DrawBookOk_any a len cap w hc hl)
  clear hc
  go_enter Try.func25, Try.ntmps25
  go_wp2_with (fail)
  refine HC.out.mono ?_
  rintro e w2 ⟨v, L, rfl, t2, o2, k2⟩
  have HO := hidIt o2
  have HB2 := hidIt k2
  have HT := hidIt t2
  clear t2 o2 k2
  go_wp2_with (fail)
  go_ret
  first | exact ⟨_, L, rfl, HT.out, HO.out, HB2.out⟩ | exact ⟨_, rfl, L, HT.out, HO.out, HB2.out⟩
set_option maxRecDepth 100000 in
set_option maxHeartbeats 4000000 in
theorem DrawJoined_any (a : Option Addr) (len cap : Nat) (w : World) (hc : Dr.Code w.heap.size w a len) (hl : len ≤ 4096) :
    Calls Try.prog 10 #[.slice a len cap] w fun e w' => ∃ v u L M, e = .returned (.tuple #[v, u]) ∧ Tame L ∧ Tame M ∧ Own w' w.heap.size v L ∧ Own w' w.heap.size u M ∧ Below w.heap.size w w' := by
  have HC := hidIt hc
  clear hc
  go_enter Try.func10, Try.ntmps10
  go_wp2_with (fail)
  refine (l1New_any _ a len cap _ (Nat.le_refl _) HC.out hl).mono ?_
  rintro e w1 ⟨c, rfl, hC1, k1⟩
  have HC1 := hidIt hC1
  have HB := hidIt k1
  clear hC1 k1
  go_wp2_with (fail)
  refine (l11DrawAny_any _ c a len cap _ HC1.out).mono ?_
  rintro e w2 ⟨v, L, rfl, t2, o2, hC2, hO2⟩
  have HO := hidIt o2
  have HB2 := hidIt (HB.out.trans (hO2.below (B := w.heap.size) HC1.out.here HB.out.size))
  have HT := hidIt t2
  have HC2 := hidIt hC2
  have hlt := HC1.out.lt
  clear t2 o2 hC2 hO2
  go_wp2_with (fail)
  refine (l11DrawAny_any _ c a len cap _ HC2.out).mono ?_
  rintro e w3 ⟨u, M, rfl, t3, o3, hC3, hO3⟩
  have HO2 := hidIt ((own_fr HO.out hO3 hlt).mono HB.out.size)
  have HO3 := hidIt (o3.mono HB2.out.size)
  have HB3 := hidIt (HB2.out.trans (hO3.below (B := w.heap.size) HC1.out.here HB2.out.size))
  have HT3 := hidIt t3
  clear t3 o3 hC3 hO3
  obtain ⟨za, zc, ez, _⟩ := HO2.out.form
  obtain ⟨ya, yc, ey, _⟩ := HO3.out.form
  subst ez ey
  go_wp2_with (fail)
  refine bodyPost_ret (v := .tuple #[.slice za L.length zc, .slice ya M.length yc]) (by simp [results, Try.results10, go_sem]) rfl ⟨_, _, L, M, rfl, HT.out, HT3.out, HO2.out, HO3.out, HB3.out⟩
set_option maxRecDepth 100000 in
set_option maxHeartbeats 4000000 in
theorem DrawValueOf_any (a : Option Addr) (len cap : Nat) (w : World) (hc : Dr.Code w.heap.size w a len) (hl : len ≤ 4096) :
    Calls Try.prog 21 #[.slice a len cap] w fun e w' => ∃ v s L, e = .returned (.tuple #[v, .string s]) ∧ Tame L ∧ s.size ≤ 40 ∧ Own w' w.heap.size v L ∧ Below w.heap.size w w' := by
  have HC := hidIt hc
  clear hc
  go_enter Try.func21, Try.ntmps21
  go_wp2_with (fail)
  refine (l1New_any _ a len cap _ (Nat.le_refl _) HC.out hl).mono ?_
  rintro e w1 ⟨c, rfl, hC1, k1⟩
  have HC1 := hidIt hC1
  have HB := hidIt k1
  clear hC1 k1
  go_wp2_with (fail)
  refine (l11DrawAny_any _ c a len cap _ HC1.out).mono ?_
  rintro e w2 ⟨v, L, rfl, t2, o2, hC2, hO2⟩
  have HO := hidIt o2
  have HB2 := hidIt (HB.out.trans (hO2.below (B := w.heap.size) HC1.out.here HB.out.size))
  have HT := hidIt t2
  have HC2 := hidIt hC2
  have hlt := HC1.out.lt
  clear t2 o2 hC2 hO2
  go_wp2_with (fail)
  refine (l11DrawKey_any _ c a len cap _ HC2.out).mono ?_
  rintro e w3 ⟨s, rfl, t3, hC3, hO3⟩
  have HO2 := hidIt ((own_fr HO.out hO3 hlt).mono HB.out.size)
  have HB3 := hidIt (HB2.out.trans (hO3.below (B := w.heap.size) HC1.out.here HB2.out.size))
  have HT3 := hidIt t3
  clear t3 hC3 hO3
  obtain ⟨za, zc, ez, _⟩ := HO2.out.form
  subst ez
  go_wp2_with (fail)
  refine bodyPost_ret (v := .tuple #[.slice za L.length zc, .string s]) (by simp [results, Try.results21, go_sem]) rfl ⟨_, s, L, rfl, HT.out, HT3.out, HO2.out, HB3.out⟩
set_option maxRecDepth 100000 in
set_option maxHeartbeats 4000000 in
theorem DrawWritten_any (a : Option Addr) (len cap : Nat) (w : World) (hc : Dr.Code w.heap.size w a len) (hl : len ≤ 4096) :
    Calls Try.prog 22 #[.slice a len cap] w fun e w' => ∃ v x L, e = .returned (.tuple #[v, rv x]) ∧ Tame L ∧ (x.1.size ≤ 41 ∧ x.2.1.size ≤ 41) ∧ Own w' w.heap.size v L ∧ Below w.heap.size w w' := by
  have HC := hidIt (hc.kept ((Below.refl _ w).alloc (Nat.le_refl _) (.cells ze 30)))
  have BX := hidIt (Bo.Box.new w ze 30)
  have HB := hidIt ((Below.refl w.heap.size w).alloc (Nat.le_refl _) (.cells ze 30))
  clear hc
  go_enter Try.func22, Try.ntmps22
  go_wp2_with (fail)
  refine (l1New_any _ a len cap _ (Nat.le_refl _) HC.out hl).mono ?_
  rintro e w1 ⟨c, rfl, hC1, k1⟩
  have hh : w.heap.size < c := by have := hC1.here; simp at this; omega
  have HC1 := hidIt hC1
  replace BX := hidIt (BX.out.kept k1)
  replace HB := hidIt (HB.out.trans (k1.mono HB.out.size))
  clear hC1 k1 HC
  go_wp2_with (fail)
  refine (l11DrawAny_any _ c a len cap _ HC1.out).mono ?_
  rintro e w2 ⟨v, L, rfl, t2, o2, hC2, hO2⟩
  have HO := hidIt o2
  have HB2 := hidIt (HB.out.trans (hO2.below (B := w.heap.size) (by omega) HB.out.size))
  replace BX := hidIt (box_oth BX.out hO2 (by omega))
  have HT := hidIt t2
  have HC2 := hidIt hC2
  have hlt := HC1.out.lt
  clear t2 o2 hC2 hO2
  go_wp2_with (fail)
  refine (l11DrawEntry_any _ c a len cap _ HC2.out).mono ?_
  rintro e w3 ⟨x, rfl, s1, s2, hC3, hO3⟩
  replace BX := hidIt (box_oth BX.out hO3 (by omega))
  have HO2 := hidIt (own_fr HO.out hO3 hlt)
  have HB3 := hidIt (HB2.out.trans (hO3.below (B := w.heap.size) (by omega) HB2.out.size))
  have HT3 := hidIt (And.intro s1 s2)
  clear hC3 hO3 s1 s2
  have HP : Hid (Bo.Box (pu5 w3 w.heap.size x) w.heap.size (x5 x) ∧ Own (pu5 w3 w.heap.size x) w.heap.size v L ∧ Below w.heap.size w (pu5 w3 w.heap.size x)) := hidIt ⟨pu5_box BX.out, (own_fr HO2.out (pu5_only w3 w.heap.size x) (by omega)).mono HB.out.size, HB3.out.trans ((pu5_only w3 w.heap.size x).below (Nat.le_refl _) HB3.out.size)⟩
  obtain ⟨za, zc, ez, _⟩ := HO2.out.form
  subst ez
  have r0 := BX.out.c 0 rfl
  have r1 := BX.out.c 1 rfl
  have r2 := BX.out.c 2 rfl
  have r3 := BX.out.c 3 rfl
  have r4 := BX.out.c 4 rfl
  have fz := BX.out.fr
  obtain ⟨xk, xv, xt, xn, xg⟩ := x
  simp only [pu5] at HP
  go_wp2_with (fail)
  generalize ((((w3.setCell ⟨w.heap.size, 0, none⟩ (.string xk)).setCell ⟨w.heap.size, 1, none⟩ (.string xv)).setCell ⟨w.heap.size, 2, none⟩ (.int .i64 xt)).setCell ⟨w.heap.size, 3, none⟩ (.int .i64 xn)).setCell ⟨w.heap.size, 4, none⟩ (.bool xg) = w9 at HP ⊢
  have t0 := HP.out.1.c 0 rfl
  have t1 := HP.out.1.c 1 rfl
  have t2 := HP.out.1.c 2 rfl
  have t3 := HP.out.1.c 3 rfl
  have t4 := HP.out.1.c 4 rfl
  refine bodyPost_ret (v := .tuple #[.slice za L.length zc, .agg #[.string xk, .string xv, .int .i64 xt, .int .i64 xn, .bool xg]]) (by simp [results, Try.results22, go_sem, t0, t1, t2, t3, t4]) rfl ?_
  first | exact ⟨_, (xk, xv, xt, xn, xg), L, rfl, HT.out, HT3.out, HP.out.2.1, HP.out.2.2⟩ | exact ⟨_, xk, xv, xt, xn, xg, L, rfl, HT.out, HT3.out, HP.out.2.1, HP.out.2.2⟩
end Go.Proofs.Ytmhfaeddfibohaa.En
