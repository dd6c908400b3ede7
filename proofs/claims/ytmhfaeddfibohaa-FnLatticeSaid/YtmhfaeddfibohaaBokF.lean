/-
  What l11Draw and l11DrawAny answer, whatever the bytes: some tame list of Entries in a row of their own.
-/
import Derived.Test.YtmhfaeddfibohaaBokE
import Derived.Test.YtmhfaeddfibohaaBokJ
import Derived.Test.YtmhfaeddfibohaaNameQ
namespace Go.Proofs.Ytmhfaeddfibohaa.En
open Go.ChangeShapes Go.WideShapes Go.ChangeAt Go.RowKit
open Go.Proofs.Ytmhfaeddfibohaa.Bk (Bytes okE newB okBk look Ris IsJoin joinB)
open Dr
set_option linter.unusedVariables false
/-- Not long, and its texts are short. -/
def Tame (L : List Rw) : Prop := L.length ≤ 90 ∧ ∀ x ∈ L, x.1.size ≤ 41 ∧ x.2.1.size ≤ 41
theorem Tame.nil : Tame [] := ⟨by simp, fun x hx => by cases hx⟩
theorem Tame.more {L : List Rw} {x : Rw} (h : Tame L) (hl : L.length < 90) (h1 : x.1.size ≤ 41) (h2 : x.2.1.size ≤ 41) : Tame (L ++ [x]) :=
  ⟨by simp; omega, fun y hy => by
    rcases List.mem_append.1 hy with hy | hy
    · exact h.2 y hy
    · have : y = x := by simpa using hy
      rw [this]; exact ⟨h1, h2⟩⟩
theorem Tame.at {L : List Rw} (h : Tame L) {i : Nat} (hi : i < L.length) : (rat L i).1.size ≤ 9223372036854775807 ∧ (rat L i).2.1.size ≤ 9223372036854775807 := by
  have := h.2 _ (rat_mem hi)
  omega
theorem tame_join {A J : List Rw} {x : Rw} (h : Tame A) (j : IsJoin (toB A) (toB [x]) (toB J)) (hl : J.length ≤ 90) (h1 : x.1.size ≤ 41) (h2 : x.2.1.size ≤ 41) : Tame J := by
  refine ⟨hl, fun y hy => ?_⟩
  rcases j.mem (List.mem_map.2 ⟨y, hy, rfl⟩) with hm | hm
  · obtain ⟨z, hz, e⟩ := List.mem_map.1 hm
    rw [← toE_inj e]
    exact h.2 z hz
  · have e : toE y = toE x := by simpa using hm
    rw [toE_inj e]
    exact ⟨h1, h2⟩
theorem own_fr {w w' : World} {base c : Nat} {v : Value} {L : List Rw} (h : Own w base v L) (k : Only c w w') (hc : c < base) : Own w' base v L := h.only k (.inl hc)
set_option maxRecDepth 100000 in
set_option maxHeartbeats 8000000 in
theorem l11Draw_any (B c : Nat) (ad : Option Addr) (len cap : Nat) (w : World) (hC : Cur B w c ad len cap) :
    Calls Try.prog 55 #[.pointer (some ⟨c, 0, none⟩)] w fun e w' => ∃ v L, e = .returned v ∧ Tame L ∧ L.length ≤ 6 ∧ Own w' w.heap.size v L ∧ Cur B w' c ad len cap ∧ Only c w w' := by
  have hlt := hC.lt
  have HC0 := hidIt (hC.kept ((Below.refl (c + 1) w).alloc (by omega) (.cells #[] 30)))
  have HO0 := hidIt (Own.new w)
  have HY0 := hidIt ((Only.refl c w).alloc (.cells #[] 30))
  clear hC
  go_enter Try.func55, Try.ntmps55
  go_wp2_with (fail)
  refine (l1Below_any B c ad len cap 7 _ (by decide) HC0.out).mono ?_
  rintro e w1 ⟨x, x0, x1, rfl, hC1, hO1⟩
  obtain ⟨n0, rfl⟩ := Int.eq_ofNat_of_zero_le x0
  have HC1 := hidIt hC1
  have HO1 := hidIt (own_fr HO0.out hO1 hlt)
  have HY1 := hidIt (HY0.out.trans hO1)
  have hn0 : n0 ≤ 6 := by omega
  clear hC1 hO1 HC0 HO0 HY0 x0 x1
  go_wp2_with (fail)
  go_loopw [3, 4] (fun s3 s4 wx => ∃ (n : Nat) (L : List Rw), s4 = .int .i64 n ∧ n ≤ 6 ∧ Hid (L.length + n ≤ 6) ∧ Hid (Own wx w.heap.size s3 L) ∧ Hid (Ris (toB L)) ∧ Hid (Tame L) ∧ Hid (Cur B wx c ad len cap) ∧ Hid (Only c w wx)) (fun _ s4 _ => (intOf s4).toNat)
  case atStart => exact ⟨n0, [], rfl, hn0, hidIt (by simp; omega), HO1, hidIt List.Pairwise.nil, hidIt Tame.nil, HC1, HY1⟩
  case round =>
    obtain ⟨n, L, rfl, hn, HL, HO, HR, HT, HC, HY⟩ := hrel
    clear HO1 HC1 HY1
    obtain ⟨a, cp, ez, hle, hcm, hrd, hna, _⟩ := HO.out.form
    subst ez
    by_cases hp : 0 < n
    · obtain ⟨m, rfl⟩ : ∃ m, n = m + 1 := ⟨n - 1, by omega⟩
      have hp' : (0 : Int) < (m : Int) + 1 := by omega
      have hm6 : (m : Int) ≤ 6 := by omega
      have hm0 : (0 : Int) ≤ (m : Int) := by omega
      clear hle hcm hrd
      have HNA := hidIt hna
      clear hna
      generalize hll : L.length = ll at *
      have HLL := hidIt hll
      clear hll
      go_wp2_with (fail)
      refine (l11DrawEntry_any B c ad len cap _ HC.out).mono ?_
      rintro e w2 ⟨x, rfl, s1, s2, hC2, hO2⟩
      obtain ⟨xk, xv, xt, xn, xg⟩ := x
      simp only at s1 s2
      have hcl := hC2.lt
      have hws : w.heap.size ≤ w2.heap.size := Nat.le_trans HY.out.size hO2.size
      have ka := (Below.refl w2.heap.size w2).alloc (Nat.le_refl _) (.cells #[.string xk, .string xv, .int .i64 xt, .int .i64 xn, .bool xg] 30)
      have BX := hidIt (Bo.Box.new w2 #[.string xk, .string xv, .int .i64 xt, .int .i64 xn, .bool xg] 30)
      have HO2 := hidIt ((own_fr HO.out hO2 hlt).kept ka)
      have HC2 := hidIt (hC2.kept (ka.mono (by omega)))
      have HY2 := hidIt ((HY.out.trans hO2).trans (Only.of_below ka))
      have CE := hidIt (fun W => spec_EntryOk (xk, xv, xt, xn, xg) W (by simp only; omega) (by simp only; omega))
      have HRx : Hid (Ris (toB [((xk, xv, xt, xn, xg) : Rw)])) := hidIt (List.pairwise_singleton _ _)
      simp only [rv] at CE
      clear hC2 hO2 ka HO HC HY
      generalize okE (toE (xk, xv, xt, xn, xg)) = ok at CE
      go_wp2_with (fail)
      refine (CE.out _).mono ?_
      generalize w2.alloc (.cells #[.string xk, .string xv, .int .i64 xt, .int .i64 xn, .bool xg] 30) = wz at BX HO2 HC2 HY2 ⊢
      rintro e w3 ⟨rfl, k3⟩
      replace BX := hidIt (BX.out.kept k3)
      replace HO2 := hidIt (HO2.out.kept k3)
      have hlz := HC2.out.lt
      replace HC2 := hidIt (HC2.out.kept (k3.mono (by omega)))
      replace HY2 := hidIt (HY2.out.trans (Only.of_below k3))
      clear k3 CE
      cases ok with
      | false =>
        go_wp2_with (fail)
        exact ⟨⟨m, L, by simp, by omega, hidIt (by have := HL.out; have := HLL.out; omega), HO2, HR, HT, HC2, HY2⟩, by simp [intOf]⟩
      | true =>
        have t0 := BX.out.c 0 rfl
        have t1 := BX.out.c 1 rfl
        have t2 := BX.out.c 2 rfl
        have t3 := BX.out.c 3 rfl
        have t4 := BX.out.c 4 rfl
        have kb := (Below.refl w3.heap.size w3).alloc (Nat.le_refl _) (.cells #[.string xk, .string xv, .int .i64 xt, .int .i64 xn, .bool xg] 30)
        have HO3 := hidIt (HO2.out.kept kb)
        have hl3 := HC2.out.lt
        have HC3 := hidIt (HC2.out.kept (kb.mono (by omega)))
        have HY3 := hidIt (HY2.out.trans (Only.of_below kb))
        have hR3 : Rd (w3.alloc (.cells #[.string xk, .string xv, .int .i64 xt, .int .i64 xn, .bool xg] 30)) (some ⟨w3.heap.size, 0, none⟩) [(xk, xv, xt, xn, xg)] := by
          obtain ⟨_, _, e1, _, _, r, _⟩ := (Own.one w3 (xk, xv, xt, xn, xg) rfl).form
          rw [(Value.slice.inj e1).1]
          exact r
        have hrL : Rd (w3.alloc (.cells #[.string xk, .string xv, .int .i64 xt, .int .i64 xn, .bool xg] 30)) a L := by
          obtain ⟨a', _, e1, _, _, r, _⟩ := HO3.out.form
          rw [(Value.slice.inj e1).1]
          exact r
        have CJ := hidIt (spec_l11Join a (some ⟨w3.heap.size, 0, none⟩) cp 1 L [(xk, xv, xt, xn, xg)] _ hrL hR3 HNA.out HR.out HRx.out (by have := HL.out; have := HLL.out; simp; omega))
        rw [HLL.out] at CJ
        simp only [List.length_singleton] at CJ
        clear hR3 hrL kb BX HO2 HC2 HY2
        go_wp2_with (fail)
        refine CJ.out.mono ?_
        generalize w3.alloc (.cells #[.string xk, .string xv, .int .i64 xt, .int .i64 xn, .bool xg] 30) = wy at HO3 HC3 HY3 ⊢
        rintro e w4 ⟨v, J, rfl, _, o4, j4, l4, k4⟩
        have hl4 := HC3.out.lt
        have HC4 := hidIt (HC3.out.kept (k4.mono (by omega)))
        have HY4 := hidIt (HY3.out.trans (Only.of_below k4))
        have HO4 := hidIt (o4.mono HY3.out.size)
        have HR4 := hidIt j4.ris
        have HL4 : Hid (J.length + m ≤ 6) := hidIt (by have := HL.out; have := HLL.out; omega)
        have HT4 := hidIt (tame_join HT.out j4 (by have := HL4.out; omega) s1 s2)
        clear o4 j4 l4 k4 CJ
        go_wp2_with (fail)
        exact ⟨⟨m, J, by simp, by omega, HL4, HO4, HR4, HT4, HC4, HY4⟩, by simp [intOf]⟩
    · have hz : n = 0 := by omega
      subst hz
      go_wp2_with (fail)
      go_ret
      exact ⟨_, L, rfl, HT.out, by have := HL.out; omega, HO.out, HC.out, HY.out⟩
end Go.Proofs.Ytmhfaeddfibohaa.En
