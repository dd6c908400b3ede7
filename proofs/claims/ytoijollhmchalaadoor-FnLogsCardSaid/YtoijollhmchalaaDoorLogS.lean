/-
  Head and Same of the program and of the specification.
-/
import Derived.Test.YtoijollhmchalaaDoorLogK
import Derived.Laws.StructEq
namespace Go.Proofs.YtoijollhmchalaaDoor.Lg
open Go.ChangeShapes Go.WideShapes Go.ChangeAt Go.RowKit
open Sg
/-- What Head answers: the last Sum of a log, -1 of what is none. -/
def hdL (L : List Ln) : Int := if okL L then headL L else -1
theorem hdL_ok {L : List Ln} (h : okL L = true) : hdL L = headL L := by unfold hdL; rw [if_pos h]
theorem hdL_no {L : List Ln} (h : okL L = false) : hdL L = -1 := by unfold hdL; rw [if_neg (by rw [h]; simp)]
set_option maxHeartbeats 2000000 in
theorem impl_Head (a : Option Addr) (cap : Nat) (L : List Ln) (w : World) (h : Rd w a L) (hcap : L.length ≤ cap) (ht : Tab w) :
    Calls Tryd.prog 17 #[.slice a L.length cap] w fun e w' => e = .returned (.int .i64 (hdL L)) ∧ Below w.heap.size w w' := by
  have CK := fun w h t => impl_LogOk a cap L w h hcap t
  cases ho : okL L with
  | false =>
    rw [ho] at CK
    rw [hdL_no ho]
    have HCK := hidIt CK
    clear CK ho
    go_enter Tryd.func17, Tryd.ntmps17
    go_wp2_with (fail)
    refine (HCK.out _ h ht).mono ?_
    rintro e w1 ⟨rfl, hb1⟩
    go_wp2_with (fail)
    go_ret
    exact ⟨rfl, hb1⟩
  | true =>
    have hl := (of_okL ho).1
    rw [ho] at CK
    rw [hdL_ok ho]
    have HCL := hidIt (fun w h => impl_lastSum a cap L w h (by omega))
    have HCK := hidIt CK
    clear CK ho
    go_enter Tryd.func17, Tryd.ntmps17
    go_wp2_with (fail)
    refine (HCK.out _ h ht).mono ?_
    rintro e w1 ⟨rfl, hb1⟩
    go_wp2_with (fail)
    refine (HCL.out _ (h.kept hb1)).mono ?_
    rintro e w2 ⟨rfl, rfl⟩
    go_wp2_with (fail)
    go_ret
    exact ⟨rfl, hb1⟩
set_option maxHeartbeats 2000000 in
theorem spec_Head (a : Option Addr) (cap : Nat) (L : List Ln) (w : World) (h : Rd w a L) :
    Calls Tryd.prog 18 #[.slice a L.length cap] w fun e w' => e = .returned (.int .i64 (hdL L)) ∧ Below w.heap.size w w' := by
  have CK := fun w h => spec_LogOk a cap L w h
  cases ho : okL L with
  | false =>
    rw [ho] at CK
    rw [hdL_no ho]
    have HCK := hidIt CK
    clear CK ho
    go_enter Tryd.func18, Tryd.ntmps18
    go_wp2_with (fail)
    refine (HCK.out _ h).mono ?_
    rintro e w1 ⟨rfl, hb1⟩
    go_wp2_with (fail)
    go_ret
    exact ⟨rfl, hb1⟩
  | true =>
    have hl := (of_okL ho).1
    rw [ho] at CK
    rw [hdL_ok ho]
    have HCL := hidIt (fun w h => spec_l4Head a cap L w h (by omega))
    have HCK := hidIt CK
    clear CK ho
    go_enter Tryd.func18, Tryd.ntmps18
    go_wp2_with (fail)
    refine (HCK.out _ h).mono ?_
    rintro e w1 ⟨rfl, hb1⟩
    go_wp2_with (fail)
    refine (HCL.out _ (h.kept hb1)).mono ?_
    rintro e w2 ⟨rfl, rfl⟩
    go_wp2_with (fail)
    go_ret
    exact ⟨rfl, hb1⟩
/-- n is how many first Lines both have alike. -/
def IsSame (L M : List Ln) (n : Nat) : Prop := n ≤ L.length ∧ n ≤ M.length ∧ (∀ j, j < n → lat L j = lat M j) ∧ (n < L.length → n < M.length → lat L n ≠ lat M n)
theorem same_ex (L M : List Ln) : ∃ n, IsSame L M n := by
  have key : ∀ d k, d + k = L.length → (∀ j, j < k → lat L j = lat M j) → k ≤ M.length → ∃ n, IsSame L M n := by
    intro d
    induction d with
    | zero => intro k hk hj hm; exact ⟨k, by omega, hm, hj, fun h => by omega⟩
    | succ d ih =>
      intro k hk hj hm
      by_cases h2 : k < M.length
      · by_cases h3 : lat L k = lat M k
        · refine ih (k + 1) (by omega) (fun j hj' => ?_) (by omega)
          rcases Nat.lt_or_ge j k with h | h
          · exact hj j h
          · rw [show j = k from by omega]; exact h3
        · exact ⟨k, by omega, hm, hj, fun _ _ => h3⟩
      · exact ⟨k, by omega, hm, hj, fun _ h => absurd h h2⟩
  exact key L.length 0 (by omega) (fun j hj => by omega) (by omega)
/-- What the next Lines may be: alike, or unlike in the text, or in the Sum alone. -/
theorem ln_cases (x y : Ln) : x = y ∨ (x.1.toList == y.1.toList) = false ∨ (x.1 = y.1 ∧ (x.2 == y.2) = false) := by
  by_cases h : x.1 = y.1
  · by_cases h2 : x.2 = y.2
    · exact .inl (Prod.ext h h2)
    · exact .inr (.inr ⟨h, by simpa using h2⟩)
  · refine .inr (.inl (beq_eq_false_iff_ne.2 fun k => h ?_))
    rw [ByteArray.toList_eq, ByteArray.toList_eq] at k
    exact ByteArray.ext (Array.toList_inj.1 k)
set_option maxRecDepth 100000 in
set_option maxHeartbeats 4000000 in
theorem impl_Same_yes (a b : Option Addr) (ca cb : Nat) (L M : List Ln) (n : Nat) (w : World) (ha : Rd w a L) (hb : Rd w b M) (hca : L.length ≤ ca) (hcb : M.length ≤ cb) (hL : okL L = true) (hM : okL M = true) (hn : IsSame L M n) (ht : Tab w) :
    Calls Tryd.prog 12 #[.slice a L.length ca, .slice b M.length cb] w fun e w' => e = .returned (.int .i64 n) ∧ Below w.heap.size w w' := by
  have C1 := fun w h t => impl_LogOk a ca L w h hca t
  have C2 := fun w h t => impl_LogOk b cb M w h hcb t
  rw [hL] at C1
  rw [hM] at C2
  have H1 := hidIt C1
  have H2 := hidIt C2
  have lL := (of_okL hL).1
  have lM := (of_okL hM).1
  have HA := hidIt ha
  have HB := hidIt hb
  have HT := hidIt ht
  have HS := hidIt hn
  generalize hl : L.length = l at *
  generalize hm : M.length = m at *
  have HL := hidIt hl
  have HM := hidIt hm
  clear C1 C2 hL hM ha hb ht hn hl hm
  go_enter Tryd.func12, Tryd.ntmps12
  go_wp2_with (fail)
  refine (H1.out _ HA.out HT.out).mono ?_
  rintro e w1 ⟨rfl, hb1⟩
  have K1 := hidIt hb1
  clear hb1
  go_wp2_with (fail)
  refine (H2.out _ (HB.out.kept K1.out) (HT.out.kept K1.out)).mono ?_
  rintro e w2 ⟨rfl, hb2⟩
  have K2 := hidIt (K1.out.trans (hb2.mono K1.out.size))
  clear hb2
  go_wp2_with (fail)
  go_loopw [5] (fun y wx => ∃ i : Nat, y = .int .i64 i ∧ i ≤ n ∧ Below w.heap.size w wx) (fun y _ => (n - intOf y).toNat)
  case atStart => exact ⟨0, rfl, by omega, K2.out⟩
  case round =>
    obtain ⟨i, rfl, hi, hB⟩ := hrel
    have RA := hidIt (HA.out.kept hB)
    have RB := hidIt (HB.out.kept hB)
    have KX := hidIt hB
    clear hB
    have z1 : n ≤ l := by have := HS.out.1; rwa [HL.out] at this
    have z2 : n ≤ m := by have := HS.out.2.1; rwa [HM.out] at this
    by_cases hin : i < n
    · obtain ⟨b1, o1, rfl, c0, c1⟩ := RA.out.cell i (by rw [HL.out]; omega)
      obtain ⟨b2, o2, rfl, d0, d1⟩ := RB.out.cell i (by rw [HM.out]; omega)
      have e := HS.out.2.2.1 i hin
      rw [← e] at d0 d1
      generalize lat L i = x at c0 c1 d0 d1
      obtain ⟨s, q⟩ := x
      clear e
      have y1 : (i : Int) < (l : Int) := by omega
      have y2 : (i : Int) < (m : Int) := by omega
      have y3 : (i : Int) < min (l : Int) (m : Int) := by omega
      clear RA RB HA HB
      go_wp2_with (fail)
      go_quiet (fail)
      go_wp2_with (fail)
      exact ⟨⟨i + 1, by simp, by omega, Go.Proofs.YtoijollhmchalaaDoor.Below.drewN KX.out _⟩, by simp [intOf]; omega⟩
    · have e5 : i = n := by omega
      subst e5
      by_cases hend : i < l ∧ i < m
      · obtain ⟨h1, h2⟩ := hend
        obtain ⟨b1, o1, rfl, c0, c1⟩ := RA.out.cell i (by rw [HL.out]; omega)
        obtain ⟨b2, o2, rfl, d0, d1⟩ := RB.out.cell i (by rw [HM.out]; omega)
        have hne := HS.out.2.2.2 (by rw [HL.out]; omega) (by rw [HM.out]; omega)
        generalize lat L i = x at c0 c1 hne
        generalize lat M i = y at d0 d1 hne
        obtain ⟨s, q⟩ := x
        obtain ⟨s', q'⟩ := y
        have y1 : (i : Int) < (l : Int) := by omega
        have y2 : (i : Int) < (m : Int) := by omega
        have y3 : (i : Int) < min (l : Int) (m : Int) := by omega
        clear RA RB HA HB
        rcases ln_cases (s, q) (s', q') with e | e | ⟨e, e2⟩
        · exact absurd e hne
        · simp only at e
          clear hne
          go_wp2_with (fail)
          go_quiet (fail)
          go_wp2_with (fail)
          go_ret
          exact ⟨rfl, Go.Proofs.YtoijollhmchalaaDoor.Below.drewN KX.out _⟩
        · simp only at e e2
          subst e
          clear hne
          go_wp2_with (fail)
          go_quiet (fail)
          go_wp2_with (fail)
          go_ret
          exact ⟨rfl, Go.Proofs.YtoijollhmchalaaDoor.Below.drewN KX.out _⟩
      · have y3 : decide ((i : Int) < min (l : Int) (m : Int)) = false := by simp; omega
        clear RA RB HA HB hend
        go_wp2_with (fail)
        go_quiet (fail)
        go_wp2_with (fail)
        go_ret
        exact ⟨rfl, Go.Proofs.YtoijollhmchalaaDoor.Below.drewN KX.out _⟩
set_option maxRecDepth 100000 in
set_option maxHeartbeats 4000000 in
theorem spec_Same_yes (a b : Option Addr) (ca cb : Nat) (L M : List Ln) (n : Nat) (w : World) (ha : Rd w a L) (hb : Rd w b M) (hL : okL L = true) (hM : okL M = true) (hn : IsSame L M n) :
    Calls Tryd.prog 19 #[.slice a L.length ca, .slice b M.length cb] w fun e w' => e = .returned (.int .i64 n) ∧ Below w.heap.size w w' := by
  have C1 := fun w h => spec_LogOk a ca L w h
  have C2 := fun w h => spec_LogOk b cb M w h
  rw [hL] at C1
  rw [hM] at C2
  have H1 := hidIt C1
  have H2 := hidIt C2
  have lL := (of_okL hL).1
  have lM := (of_okL hM).1
  have HA := hidIt ha
  have HB := hidIt hb
  have HS := hidIt hn
  generalize hl : L.length = l at *
  generalize hm : M.length = m at *
  have HL := hidIt hl
  have HM := hidIt hm
  clear C1 C2 hL hM ha hb hn hl hm
  go_enter Tryd.func19, Tryd.ntmps19
  go_wp2_with (fail)
  refine (H1.out _ HA.out).mono ?_
  rintro e w1 ⟨rfl, hb1⟩
  have K1 := hidIt hb1
  clear hb1
  go_wp2_with (fail)
  refine (H2.out _ (HB.out.kept K1.out)).mono ?_
  rintro e w2 ⟨rfl, hb2⟩
  have K2 := hidIt (K1.out.trans (hb2.mono K1.out.size))
  clear hb2
  go_wp2_with (fail)
  go_loopw [5] (fun y wx => ∃ i : Nat, y = .int .i64 i ∧ i ≤ n ∧ Below w.heap.size w wx) (fun y _ => (n - intOf y).toNat)
  case atStart => exact ⟨0, rfl, by omega, K2.out⟩
  case round =>
    obtain ⟨i, rfl, hi, hB⟩ := hrel
    have RA := hidIt (HA.out.kept hB)
    have RB := hidIt (HB.out.kept hB)
    have KX := hidIt hB
    clear hB
    have z1 : n ≤ l := by have := HS.out.1; rwa [HL.out] at this
    have z2 : n ≤ m := by have := HS.out.2.1; rwa [HM.out] at this
    by_cases hin : i < n
    · obtain ⟨b1, o1, rfl, c0, c1⟩ := RA.out.cell i (by rw [HL.out]; omega)
      obtain ⟨b2, o2, rfl, d0, d1⟩ := RB.out.cell i (by rw [HM.out]; omega)
      have e := HS.out.2.2.1 i hin
      rw [← e] at d0 d1
      generalize lat L i = x at c0 c1 d0 d1
      obtain ⟨s, q⟩ := x
      clear e
      have y1 : (i : Int) < (l : Int) := by omega
      have y2 : (i : Int) < (m : Int) := by omega
      clear RA RB HA HB
      go_wp2_with (fail)
      go_quiet (fail)
      go_wp2_with (fail)
      exact ⟨⟨i + 1, by simp, by omega, Go.Proofs.YtoijollhmchalaaDoor.Below.drewN KX.out _⟩, by simp [intOf]; omega⟩
    · have e5 : i = n := by omega
      subst e5
      by_cases hend : i < l ∧ i < m
      · obtain ⟨h1, h2⟩ := hend
        obtain ⟨b1, o1, rfl, c0, c1⟩ := RA.out.cell i (by rw [HL.out]; omega)
        obtain ⟨b2, o2, rfl, d0, d1⟩ := RB.out.cell i (by rw [HM.out]; omega)
        have hne := HS.out.2.2.2 (by rw [HL.out]; omega) (by rw [HM.out]; omega)
        generalize lat L i = x at c0 c1 hne
        generalize lat M i = y at d0 d1 hne
        obtain ⟨s, q⟩ := x
        obtain ⟨s', q'⟩ := y
        have y1 : (i : Int) < (l : Int) := by omega
        have y2 : (i : Int) < (m : Int) := by omega
        clear RA RB HA HB
        rcases ln_cases (s, q) (s', q') with e | e | ⟨e, e2⟩
        · exact absurd e hne
        · simp only at e
          clear hne
          go_wp2_with (fail)
          go_quiet (fail)
          go_wp2_with (fail)
          go_ret
          exact ⟨rfl, Go.Proofs.YtoijollhmchalaaDoor.Below.drewN KX.out _⟩
        · simp only at e e2
          subst e
          clear hne
          go_wp2_with (fail)
          go_quiet (fail)
          go_wp2_with (fail)
          go_ret
          exact ⟨rfl, Go.Proofs.YtoijollhmchalaaDoor.Below.drewN KX.out _⟩
      · clear RA RB HA HB
        by_cases hl1 : i < l
        · have y1 : (i : Int) < (l : Int) := by omega
          have y2 : decide ((i : Int) < (m : Int)) = false := by simp; omega
          have y4 : decide (i < m) = false := by simp; omega
          clear hend
          go_wp2_with (fail)
          go_quiet (fail)
          go_wp2_with (fail)
          go_ret
          exact ⟨rfl, Go.Proofs.YtoijollhmchalaaDoor.Below.drewN KX.out _⟩
        · have y1 : decide ((i : Int) < (l : Int)) = false := by simp; omega
          clear hend
          go_wp2_with (fail)
          go_quiet (fail)
          go_wp2_with (fail)
          go_ret
          exact ⟨rfl, Go.Proofs.YtoijollhmchalaaDoor.Below.drewN KX.out _⟩
end Go.Proofs.YtoijollhmchalaaDoor.Lg
