/-
  What the Draws of chapter 14 answer, whatever the bytes.
-/
import Derived.Test.YtdgnjhppggemhaaRuD
import Derived.Test.YtdgnjhppggemhaaRuW
namespace Go.Proofs.Ytdgnjhppggemhaa.Ru
open Go.ChangeShapes Go.WideShapes Go.ChangeAt Go.RowKit
open Dr
set_option linter.unusedVariables false
/-- Few Rules, and short ones. -/
structure Tame (L : List Rw) : Prop where
  len : L.length ≤ 19
  sz : ∀ i, i < L.length → (rat L i).1.size ≤ 41
theorem Tame.short {L : List Rw} (h : Tame L) : ∀ i, i < L.length → (rat L i).1.size ≤ 9223372036854775807 := fun i hi => Nat.le_trans (h.sz i hi) (by omega)
theorem own_fr {w w' : World} {base c : Nat} {v : Value} {L : List Rw} (h : Own w base v L) (k : Only c w w') (hc : c < base) : Own w' base v L := h.only k (.inl hc)
theorem show_size (L : List Rw) : (showR L).size ≤ 528 := by
  unfold showR
  cases e : okR L with
  | false => exact Nat.zero_le _
  | true =>
    have := shw_size L (fun i hi => okP_len (okR_at e hi)) L.length (Nat.le_refl _)
    have := okR_len e
    rw [if_pos rfl]
    omega
set_option maxRecDepth 100000 in
set_option maxHeartbeats 4000000 in
theorem l11DrawKey_any (B c : Nat) (a : Option Addr) (len cap : Nat) (w : World) (hC : Cur B w c a len cap) :
    Calls Try.prog 25 #[.pointer (some ⟨c, 0, none⟩)] w fun e w' => ∃ t : ByteArray, e = .returned (.string t) ∧ t.size ≤ 40 ∧ Cur B w' c a len cap ∧ Only c w w' := by
  have hlt := hC.lt
  have HC := hidIt hC
  clear hC
  go_enter Try.func25, Try.ntmps25
  go_wp2_with (fail)
  refine (l1Below_any B c a len cap _ _ (by decide) (HC.out.kept ((Below.refl (c + 1) _).alloc (by omega) _))).mono ?_
  rintro e w2 ⟨x, x0, x1, rfl, hC2, hO2⟩
  have z2 : w.heap.size < w2.heap.size := by have := hO2.size; simp at this; omega
  have hcell := fun o => hO2.cell (p := ⟨w.heap.size, o, none⟩) (by simp) (by simp; omega)
  have C2 := hidIt hC2
  have O2 := hidIt (((Only.refl c w).alloc _).trans hO2)
  clear hC2 hO2
  have hx : x = 0 ∨ x = 1 ∨ x = 2 ∨ x = 3 ∨ x = 4 ∨ x = 5 ∨ x = 6 := by omega
  clear x0 x1
  rcases hx with rfl | rfl | rfl | rfl | rfl | rfl | rfl
  all_goals
    go_wp2_with (fail)
    go_ret
    exact ⟨_, rfl, by decide, C2.out, O2.out⟩
set_option maxRecDepth 100000 in
set_option maxHeartbeats 4000000 in
theorem DrawRuleFor_any (a : Option Addr) (len cap : Nat) (w : World) (hc : Dr.Code w.heap.size w a len) (hl : len ≤ 4096) :
    Calls Try.prog 9 #[.slice a len cap] w fun e w' => ∃ v s L, e = .returned (.tuple #[v, .string s]) ∧ Tame L ∧ s.size ≤ 40 ∧ Own w' w.heap.size v L ∧ Below w.heap.size w w' := by
  have HC := hidIt hc
  clear hc
  go_enter Try.func9, Try.ntmps9
  go_wp2_with (fail)
  refine (l1New_any _ a len cap _ (Nat.le_refl _) HC.out hl).mono ?_
  rintro e w1 ⟨c, rfl, hC1, k1⟩
  have HC1 := hidIt hC1
  have HB := hidIt k1
  clear hC1 k1
  go_wp2_with (fail)
  refine (l14Draw_any _ c a len cap _ HC1.out).mono ?_
  rintro e w2 ⟨v, L, rfl, t2, s2, o2, hC2, hO2⟩
  have HO := hidIt o2
  have HB2 := hidIt (HB.out.trans (hO2.below (B := w.heap.size) HC1.out.here HB.out.size))
  have HT := hidIt (Tame.mk t2 s2)
  have HC2 := hidIt hC2
  have hlt := HC1.out.lt
  clear t2 s2 o2 hC2 hO2
  go_wp2_with (fail)
  refine (l11DrawKey_any _ c a len cap _ HC2.out).mono ?_
  rintro e w3 ⟨s, rfl, t3, hC3, hO3⟩
  have HO2 := hidIt ((own_fr HO.out hO3 hlt).mono HB.out.size)
  have HB3 := hidIt (HB2.out.trans (hO3.below (B := w.heap.size) HC1.out.here HB2.out.size))
  have HT3 := hidIt t3
  clear t3 hC3 hO3
  obtain ⟨za, zc, ez, _⟩ := HO2.out.form
  subst ez
  go_wp2_with (fail)
  refine bodyPost_ret (v := .tuple #[.slice za L.length zc, .string s]) (by simp [results, Try.results9, go_sem]) rfl ⟨_, s, L, rfl, HT.out, HT3.out, HO2.out, HB3.out⟩
set_option maxRecDepth 100000 in
set_option maxHeartbeats 4000000 in
theorem DrawMay_any (a : Option Addr) (len cap : Nat) (w : World) (hc : Dr.Code w.heap.size w a len) (hl : len ≤ 4096) :
    Calls Try.prog 11 #[.slice a len cap] w fun e w' => ∃ v s b L, e = .returned (.tuple #[v, .string s, .bool b]) ∧ Tame L ∧ s.size ≤ 40 ∧ Own w' w.heap.size v L ∧ Below w.heap.size w w' := by
  have HC := hidIt hc
  clear hc
  go_enter Try.func11, Try.ntmps11
  go_wp2_with (fail)
  refine (l1New_any _ a len cap _ (Nat.le_refl _) HC.out hl).mono ?_
  rintro e w1 ⟨c, rfl, hC1, k1⟩
  have HC1 := hidIt hC1
  have HB := hidIt k1
  clear hC1 k1
  go_wp2_with (fail)
  refine (l14Draw_any _ c a len cap _ HC1.out).mono ?_
  rintro e w2 ⟨v, L, rfl, t2, s2, o2, hC2, hO2⟩
  have HO := hidIt o2
  have HB2 := hidIt (HB.out.trans (hO2.below (B := w.heap.size) HC1.out.here HB.out.size))
  have HT := hidIt (Tame.mk t2 s2)
  have HC2 := hidIt hC2
  have hlt := HC1.out.lt
  clear t2 s2 o2 hC2 hO2
  go_wp2_with (fail)
  refine (l11DrawKey_any _ c a len cap _ HC2.out).mono ?_
  rintro e w3 ⟨s, rfl, t3, hC3, hO3⟩
  have HO2 := hidIt (own_fr HO.out hO3 hlt)
  have HB3 := hidIt (HB2.out.trans (hO3.below (B := w.heap.size) HC1.out.here HB2.out.size))
  have HT3 := hidIt t3
  have HC3 := hidIt hC3
  clear t3 hC3 hO3
  go_wp2_with (fail)
  refine (l1Once_any _ c a len cap 2 _ (by decide) HC3.out).mono ?_
  rintro e w4 ⟨b, rfl, hC4, hO4⟩
  have HO4 := hidIt ((own_fr HO2.out hO4 hlt).mono HB.out.size)
  have HB4 := hidIt (HB3.out.trans (hO4.below (B := w.heap.size) HC1.out.here HB3.out.size))
  clear hC4 hO4
  obtain ⟨za, zc, ez, _⟩ := HO4.out.form
  subst ez
  go_wp2_with (fail)
  refine bodyPost_ret (v := .tuple #[.slice za L.length zc, .string s, .bool b]) (by simp [results, Try.results11, go_sem]) rfl ⟨_, s, b, L, rfl, HT.out, HT3.out, HO4.out, HB4.out⟩
end Go.Proofs.Ytdgnjhppggemhaa.Ru
