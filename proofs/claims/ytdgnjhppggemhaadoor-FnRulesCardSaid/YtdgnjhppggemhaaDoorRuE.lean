/-
  What the Draws of chapter 14 answer, whatever the bytes.
-/
import Derived.Test.YtdgnjhppggemhaaDoorRuD
import Derived.Test.YtdgnjhppggemhaaDoorRuW
import Derived.Test.YtdgnjhppggemhaaDoorPackB
namespace Go.Proofs.YtdgnjhppggemhaaDoor.Ru
open Go.ChangeShapes Go.WideShapes Go.ChangeAt Go.RowKit
open Dr
set_option linter.unusedVariables false
/-- Few Rules, and short ones. -/
structure Tame (L : List Rw) : Prop where
  len : L.length ≤ 19
  sz : ∀ i, i < L.length → (rat L i).1.size ≤ 41
theorem Tame.short {L : List Rw} (h : Tame L) : ∀ i, i < L.length → (rat L i).1.size ≤ 9223372036854775807 := fun i hi => Nat.le_trans (h.sz i hi) (by omega)
theorem own_fr {w w' : World} {base c : Nat} {v : Value} {L : List Rw} (h : Own w base v L) (k : Only c w w') (hc : c < base) : Own w' base v L := h.only k (.inl hc)
theorem show_size (L : List Rw) : (showR L).size ≤ 528 := by
  unfold showR
  cases e : okR L with
  | false => exact Nat.zero_le _
  | true =>
    have := shw_size L (fun i hi => okP_len (okR_at e hi)) L.length (Nat.le_refl _)
    have := okR_len e
    rw [if_pos rfl]
    omega
set_option maxRecDepth 100000 in
set_option maxHeartbeats 4000000 in
theorem DrawRulesOk_any (a : Option Addr) (len cap : Nat) (w : World) (hc : Dr.Code w.heap.size w a len) (hl : len ≤ 4096) :
    Calls Tryd.prog 14 #[.slice a len cap] w fun e w' => ∃ v L, e = .returned v ∧ Tame L ∧ Own w' w.heap.size v L ∧ Below w.heap.size w w' := by
  have HC := hidIt hc
  clear hc
  go_enter Tryd.func14, Tryd.ntmps14
  go_wp2_with (fail)
  refine (l1New_any _ a len cap _ (Nat.le_refl _) HC.out hl).mono ?_
  rintro e w1 ⟨c, rfl, hC1, k1⟩
  have HC1 := hidIt hC1
  have HB := hidIt k1
  clear hC1 k1
  go_wp2_with (fail)
  refine (l14Draw_any _ c a len cap _ HC1.out).mono ?_
  rintro e w2 ⟨v, L, rfl, t2, s2, o2, hC2, hO2⟩
  have HO := hidIt (o2.mono HB.out.size)
  have HB2 := hidIt (HB.out.trans (hO2.below (B := w.heap.size) HC1.out.here HB.out.size))
  have HT := hidIt (Tame.mk t2 s2)
  clear t2 s2 o2 hC2 hO2
  go_wp2_with (fail)
  go_ret
  first | exact ⟨_, L, rfl, HT.out, HO.out, HB2.out⟩ | exact ⟨_, rfl, L, HT.out, HO.out, HB2.out⟩
set_option maxRecDepth 100000 in
set_option maxHeartbeats 4000000 in
theorem DrawShowRules_any (a : Option Addr) (len cap : Nat) (w : World) (hc : Dr.Code w.heap.size w a len) (hl : len ≤ 4096) :
    Calls Tryd.prog 5 #[.slice a len cap] w fun e w' => ∃ v L, e = .returned v ∧ Tame L ∧ Own w' w.heap.size v L ∧ Below w.heap.size w w' := by
  have HC := hidIt (DrawRulesOk_any a len cap w hc hl)
  clear hc
  go_enter Tryd.func5, Tryd.ntmps5
  go_wp2_with (fail)
  refine HC.out.mono ?_
  rintro e w2 ⟨v, L, rfl, t2, o2, k2⟩
  have HO := hidIt o2
  have HB2 := hidIt k2
  have HT := hidIt t2
  clear t2 o2 k2
  go_wp2_with (fail)
  go_ret
  first | exact ⟨_, L, rfl, HT.out, HO.out, HB2.out⟩ | exact ⟨_, rfl, L, HT.out, HO.out, HB2.out⟩
set_option maxRecDepth 100000 in
set_option maxHeartbeats 4000000 in
theorem DrawReadRules_any (a : Option Addr) (len cap : Nat) (w : World) (hc : Dr.Code w.heap.size w a len) (hl : len ≤ 4096) :
    Calls Tryd.prog 7 #[.slice a len cap] w fun e w' => ∃ s : ByteArray, e = .returned (.string s) ∧ s.size ≤ 2002 ∧ Below w.heap.size w w' := by
  have HC := hidIt hc
  clear hc
  go_enter Tryd.func7, Tryd.ntmps7
  go_wp2_with (fail)
  refine (l1New_any _ a len cap _ (Nat.le_refl _) HC.out hl).mono ?_
  rintro e w1 ⟨c, rfl, hC1, k1⟩
  have HC1 := hidIt hC1
  have HB := hidIt k1
  clear hC1 k1
  go_wp2_with (fail)
  refine (l14Draw_any _ c a len cap _ HC1.out).mono ?_
  rintro e w2 ⟨v, L, rfl, t2, s2, o2, hC2, hO2⟩
  have HO := hidIt o2
  have HB2 := hidIt (HB.out.trans (hO2.below (B := w.heap.size) HC1.out.here HB.out.size))
  have HT := hidIt (Tame.mk t2 s2)
  have HC2 := hidIt hC2
  clear t2 s2 o2 hC2 hO2
  obtain ⟨za, zc, ez, _, _, hR, _⟩ := HO.out.form
  subst ez
  have CS := hidIt (spec_ShowRules za zc L w2 hR (by have := HT.out.len; omega) HT.out.short)
  have hsz : (showR L).size ≤ 528 := show_size L
  generalize showR L = s at CS hsz
  clear hR
  generalize L.length = m at *
  go_wp2_with (fail)
  refine CS.out.mono ?_
  rintro e w3 ⟨rfl, kk⟩
  have HC3 := hidIt (HC2.out.kept (kk.mono (by have := HC2.out.lt; omega)))
  have HB3 := hidIt (HB2.out.trans (kk.mono HB2.out.size))
  clear kk
  go_wp2_with (fail)
  refine (l1Once_any _ c a len cap 2 _ (by decide) HC3.out).mono ?_
  rintro e w4 ⟨b, rfl, hC4, hO4⟩
  have HC4 := hidIt hC4
  have HB4 := hidIt (HB3.out.trans (hO4.below (B := w.heap.size) HC1.out.here HB3.out.size))
  clear hC4 hO4
  cases b with
  | false =>
    go_wp2_with (fail)
    go_ret
    exact ⟨s, rfl, by omega, HB4.out⟩
  | true =>
    go_wp2_with (fail)
    refine (Nm.l1Bend_sg _ c a len cap s _ _ HC4.out (by omega) (by decide) (by decide)).mono ?_
    rintro e w5 ⟨t, ht, rfl, hC5, hO5⟩
    have HB5 := hidIt (HB4.out.trans (hO5.below (B := w.heap.size) HC1.out.here HB4.out.size))
    clear hC5 hO5
    go_wp2_with (fail)
    go_ret
    exact ⟨t, rfl, ht, HB5.out⟩
end Go.Proofs.YtdgnjhppggemhaaDoor.Ru
