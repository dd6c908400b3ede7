/-
  What the Draws of chapter 12 answer, whatever the bytes.
-/
import Derived.Test.YtlcbapijpdlolaaMbE
import Derived.Deep.RegionWith
namespace Go.Proofs.Ytlcbapijpdlolaa.Mm
open Go.ChangeShapes Go.WideShapes Go.ChangeAt Go.RowKit
open Dr
set_option linter.unusedVariables false
set_option maxRecDepth 100000 in
set_option maxHeartbeats 4000000 in
theorem DrawMerged_any (a : Option Addr) (len cap : Nat) (w : World) (hc : Dr.Code w.heap.size w a len) (hl : len ≤ 4096) :
    Calls Try.prog 10 #[.slice a len cap] w fun e w' => ∃ v u L M, e = .returned (.tuple #[v, u]) ∧ L.length ≤ 4 ∧ M.length ≤ 4 ∧ Own w' w.heap.size v L ∧ Own w' w.heap.size u M ∧ Below w.heap.size w w' := by
  have HC := hidIt hc
  clear hc
  go_enter Try.func10, Try.ntmps10
  go_wp2_with (fail)
  refine (l1New_any _ a len cap _ (Nat.le_refl _) HC.out hl).mono ?_
  rintro e w1 ⟨c, rfl, hC1, k1⟩
  have HC1 := hidIt hC1
  have HB := hidIt k1
  clear hC1 k1
  go_wp2_with (fail)
  refine (l12Draw_any _ c a len cap _ HC1.out).mono ?_
  rintro e w2 ⟨v, L, rfl, t2, o2, hC2, hO2⟩
  have HO := hidIt o2
  have HB2 := hidIt (HB.out.trans (hO2.below (B := w.heap.size) HC1.out.here HB.out.size))
  have HT := hidIt t2
  have HC2 := hidIt hC2
  have hlt := HC1.out.lt
  clear t2 o2 hC2 hO2
  go_wp2_with (fail)
  refine (l12Draw_any _ c a len cap _ HC2.out).mono ?_
  rintro e w3 ⟨u, M, rfl, t3, o3, hC3, hO3⟩
  have HO2 := hidIt ((HO.out.only hO3 (.inl hlt)).mono HB.out.size)
  have HO3 := hidIt (o3.mono HB2.out.size)
  have HB3 := hidIt (HB2.out.trans (hO3.below (B := w.heap.size) HC1.out.here HB2.out.size))
  have HT3 := hidIt t3
  clear t3 o3 hC3 hO3
  obtain ⟨za, zc, ez, _⟩ := HO2.out.form
  obtain ⟨ya, yc, ey, _⟩ := HO3.out.form
  subst ez ey
  go_wp2_with (fail)
  refine bodyPost_ret (v := .tuple #[.slice za L.length zc, .slice ya M.length yc]) (by simp [results, Try.results10, go_sem]) rfl ⟨_, _, L, M, rfl, HT.out, HT3.out, HO2.out, HO3.out, HB3.out⟩
set_option maxRecDepth 100000 in
set_option maxHeartbeats 2000000 in
theorem DrawDoubted_any (a : Option Addr) (len cap : Nat) (w : World) (hc : Dr.Code w.heap.size w a len) (hl : len ≤ 4096) :
    Calls Try.prog 43 #[.slice a len cap] w fun e w' => ∃ v L id, e = .returned (.tuple #[v, .int .i64 id]) ∧ L.length ≤ 4 ∧ Own w' w.heap.size v L ∧ Below w.heap.size w w' := by
  have HC := hidIt hc
  clear hc
  go_enter Try.func43, Try.ntmps43
  go_wp2_with (fail)
  refine (l1New_any _ a len cap _ (Nat.le_refl _) HC.out hl).mono ?_
  rintro e w1 ⟨c, rfl, hC1, k1⟩
  have HC1 := hidIt hC1
  have HB := hidIt k1
  clear hC1 k1
  go_wp2_with (fail)
  refine (l12Draw_any _ c a len cap _ HC1.out).mono ?_
  rintro e w2 ⟨v, L, rfl, t2, o2, hC2, hO2⟩
  have HO := hidIt o2
  have HB2 := hidIt (HB.out.trans (hO2.below (B := w.heap.size) HC1.out.here HB.out.size))
  have HC2 := hidIt hC2
  have hlt := HC1.out.lt
  have hhe := HC1.out.here
  clear o2 hC2 hO2 HC
  obtain ⟨za, zc, ez, _⟩ := HO.out.form
  subst ez
  generalize hll : L.length = ll at *
  have HLL := hidIt hll
  clear hll
  rcases Nat.eq_zero_or_pos ll with hz | hp
  · subst hz
    go_wp2_with (fail)
    refine (from_10 _ c a len cap _ HC2.out).mono ?_
    rintro e w3 ⟨x, rfl, hC3, hO3⟩
    have HO3 := hidIt ((HO.out.only hO3 (.inl hlt)).mono HB.out.size)
    have HB3 := hidIt (HB2.out.trans (hO3.below (B := w.heap.size) hhe HB2.out.size))
    clear hC3 hO3
    go_wp2_with (fail)
    refine bodyPost_ret (v := .tuple #[.slice za 0 zc, .int .i64 x]) (by simp [results, Try.results43, go_sem]) rfl ⟨_, L, x, rfl, by rw [HLL.out]; exact t2, HO3.out, HB3.out⟩
  · have hp' : (0 : Int) < (ll : Int) := by omega
    go_wp2_with (fail)
    refine (l1Once_any _ c a len cap 4 _ (by decide) HC2.out).mono ?_
    rintro e w3 ⟨b1, rfl, hC3, hO3⟩
    have HO3 := hidIt (HO.out.only hO3 (.inl hlt))
    have HB3 := hidIt (HB2.out.trans (hO3.below (B := w.heap.size) hhe HB2.out.size))
    have HC3 := hidIt hC3
    clear hC3 hO3
    cases b1 with
    | true =>
      go_wp2_with (fail)
      refine (from_10 _ c a len cap _ HC3.out).mono ?_
      rintro e w4 ⟨x, rfl, hC4, hO4⟩
      have HO4 := hidIt ((HO3.out.only hO4 (.inl hlt)).mono HB.out.size)
      have HB4 := hidIt (HB3.out.trans (hO4.below (B := w.heap.size) hhe HB3.out.size))
      clear hC4 hO4
      go_wp2_with (fail)
      refine bodyPost_ret (v := .tuple #[.slice za ll zc, .int .i64 x]) (by simp [results, Try.results43, go_sem]) rfl ⟨_, L, x, rfl, by rw [HLL.out]; exact t2, HO4.out, HB4.out⟩
    | false =>
      have HCd := hidIt (HC3.out.drewN 1)
      go_wp2_with (fail)
      go_region_with (first
        | (go_at_call 38; refine (l1Below_any _ c a len cap (ll : Int) _ hp' HCd.out).mono ?_; rintro e w4 ⟨x, x0, x1, rfl, hC4, hO4⟩; have HO4 := hidIt (HO3.out.drew.only hO4 (.inl hlt)); have HB4 := hidIt (HB3.out.drew.trans (hO4.below (B := w.heap.size) hhe HB3.out.size)); clear hC4 hO4; obtain ⟨n, rfl⟩ := Int.eq_ofNat_of_zero_le x0; have hnL : n < L.length := (by rw [HLL.out]; omega); obtain ⟨a', c', e1, _, _, rd, _⟩ := HO4.out.form; obtain ⟨bb, off, ea, c0, c1, c2⟩ := rd.all hnL; have ea2 := (Value.slice.inj e1).1.trans ea; clear e1 rd ea; subst ea2))
      all_goals
        go_wp2_with (fail)
        refine bodyPost_ret (v := .tuple #[.slice (some ⟨bb, off, none⟩) ll zc, .int .i64 (rat L n).1]) (by simp [results, Try.results43, go_sem]) rfl ⟨_, L, (rat L n).1, rfl, by rw [HLL.out]; exact t2, HO4.out.mono HB.out.size, HB4.out⟩
end Go.Proofs.Ytlcbapijpdlolaa.Mm
