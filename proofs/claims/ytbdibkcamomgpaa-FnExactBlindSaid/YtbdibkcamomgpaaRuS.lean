/-
  RulesOk of the specification. (Written by wip/mkRule.py.)
-/
import Derived.Test.YtbdibkcamomgpaaRuP
import Derived.Test.YtbdibkcamomgpaaQuiet
import Derived.Handy
namespace Go.Proofs.Ytbdibkcamomgpaa.Ru
open Go.ChangeShapes Go.WideShapes Go.ChangeAt Go.RowKit
set_option linter.unusedVariables false
attribute [local go_sem] str_gtr str_leq
theorem byte_arms (n : Nat) : (33 ≤ n ∧ n ≤ 126) ∨ n < 33 ∨ 126 < n := by omega
set_option maxRecDepth 100000 in
set_option maxHeartbeats 8000000 in
theorem spec_RulesOk (a : Option Addr) (cap : Nat) (L : List Rw) (w : World) (h : Rd w a L) (hl : L.length ≤ 9223372036854775807) (hs : ∀ i, i < L.length → (rat L i).1.size ≤ 9223372036854775807) :
    Calls Try.prog 20 #[.slice a L.length cap] w fun e w' => e = .returned (.bool (okR L)) ∧ Below w.heap.size w w' := by
  have N1 : Hid (¬ L.length ≤ 12 → okR L = false) := hidIt okR_no1
  have N2 : Hid (∀ i, i < L.length → okP (rat L i).1 = false → okR L = false) := hidIt (fun i hi h => okR_no2 hi h)
  have N3 : Hid (∀ i, i + 1 < L.length → ¬ kat L i < kat L (i + 1) → okR L = false) := hidIt (fun i hi h => okR_no3 hi h)
  have N4 : Hid (L.length ≤ 12 → (∀ i, i < L.length → okP (rat L i).1 = true) → (∀ i, i + 1 < L.length → kat L i < kat L (i + 1)) → okR L = true) := hidIt okR_yes
  generalize okR L = r at N1 N2 N3 N4 ⊢
  have HR := hidIt h
  have HS := hidIt hs
  clear h hs
  generalize hn : L.length = m at *
  have HN := hidIt hn
  clear hn
  by_cases h12 : m ≤ 12
  · have h12' : ¬ (12 : Int) < (m : Int) := by omega
    go_enter Try.func20, Try.ntmps20
    go_wp2_with (fail)
    go_loopw [3] (fun y wx => ∃ i : Nat, y = .int .i64 i ∧ i ≤ m ∧ Hid (∀ j, j < i → okP (rat L j).1 = true) ∧ Hid (∀ j, j + 1 < i → kat L j < kat L (j + 1)) ∧ Hid (Below w.heap.size w wx)) (fun y _ => (m - intOf y).toNat)
    case atStart => exact ⟨0, rfl, by omega, hidIt (fun j hj => by omega), hidIt (fun j hj => by omega), hidIt (Below.refl _ _)⟩
    case round =>
      obtain ⟨i, rfl, hi, HO, HK, HB⟩ := hrel
      by_cases hin : i < m
      · have hin' : (i : Int) < (m : Int) := by omega
        have HRx := hidIt (HR.out.kept HB.out)
        obtain ⟨b, off, ea, c0, _, _⟩ := HRx.out.all (i := i) (by rw [HN.out]; exact hin)
        subst ea
        have hsz := HS.out i hin
        have hkey : Hid (kat L i = bs (rat L i).1) := hidIt rfl
        have N2i := hidIt (N2.out i hin)
        have HO1 : Hid (okP (rat L i).1 = true → ∀ j, j < i + 1 → okP (rat L j).1 = true) := hidIt (fun g j hj => by
          rcases Nat.lt_succ_iff_lt_or_eq.1 hj with h | h
          · exact HO.out j h
          · subst h; exact g)
        generalize (rat L i).1 = x at c0 hkey hsz N2i HO1
        by_cases h40 : x.size ≤ 40
        · have h40' : ¬ (40 : Int) < (x.size : Int) := by omega
          have HX1 : Hid (∀ j, (hj : j < x.size) → byteP x[j] = false → okP x = false) := hidIt (fun j hj g => okP_no2 hj g)
          have HX2 : Hid ((∀ j, (hj : j < x.size) → byteP x[j] = true) → okP x = true) := hidIt (fun g => okP_yes h40 g)
          rcases Nat.eq_zero_or_pos i with hz | hp
          · subst hz
            simp only [Nat.zero_mul, Nat.add_zero] at c0
            have HKN : Hid (∀ j, j + 1 < 0 + 1 → kat L j < kat L (j + 1)) := hidIt (fun j hj => by omega)
            go_wp2_with (fail)
            go_loopw [5] (fun y wx => ∃ q : Nat, y = .int .i64 q ∧ q ≤ x.size ∧ Hid (∀ j, (hj : j < x.size) → j < q → byteP x[j] = true) ∧ Hid (Below w.heap.size w wx)) (fun y _ => (x.size - intOf y).toNat)
            case atStart => exact ⟨0, rfl, by omega, hidIt (fun j _ hj => by omega), HB⟩
            case round =>
              obtain ⟨q, rfl, hq, HG, HB2⟩ := hrel
              by_cases hqn : q < x.size
              · have hqn' : (q : Int) < (x.size : Int) := by omega
                obtain ⟨n, hb⟩ : ∃ n, (x[q]).toNat = n := ⟨_, rfl⟩
                rcases byte_arms n with a1 | a2 | a3
                · have q1 : decide (((x[q]).toNat : Int) < 33) = false := by rw [hb]; simp; omega
                  have q2 : decide ((126 : Int) < ((x[q]).toNat : Int)) = false := by rw [hb]; simp; omega
                  have HOK : Hid (byteP x[q] = true) := hidIt (byteP_yes (by omega) (by omega))
                  clear hb
                  go_wp2_with (fail)
                  refine ⟨⟨q + 1, by simp, by omega, hidIt (fun j hj hj' => ?_), HB2⟩, by simp [intOf]; omega⟩
                  rcases Nat.lt_or_ge j q with h' | h'
                  · exact HG.out j hj h'
                  · have : j = q := by omega
                    subst this
                    exact HOK.out
                · have q1 : decide (((x[q]).toNat : Int) < 33) = true := by rw [hb]; simp; omega
                  have er := N2i.out (HX1.out q hqn (byteP_no (Or.inl (by omega))))
                  clear hb
                  subst er
                  go_wp2_with (fail)
                  go_ret
                  exact ⟨rfl, HB2.out⟩
                · have q1 : decide (((x[q]).toNat : Int) < 33) = false := by rw [hb]; simp; omega
                  have q2 : decide ((126 : Int) < ((x[q]).toNat : Int)) = true := by rw [hb]; simp; omega
                  have er := N2i.out (HX1.out q hqn (byteP_no (Or.inr (by omega))))
                  clear hb
                  subst er
                  go_wp2_with (fail)
                  go_ret
                  exact ⟨rfl, HB2.out⟩
              · have hqn' : ¬ (q : Int) < (x.size : Int) := by omega
                have HO' := hidIt (HO1.out (HX2.out (fun j hj => HG.out j hj (by omega))))
                go_wp2_with (fail)
                exact ⟨⟨1, by simp, by omega, HO', HKN, HB2⟩, by simp [intOf]; omega⟩
          · obtain ⟨j0, rfl⟩ : ∃ j, i = j + 1 := ⟨i - 1, by omega⟩
            obtain ⟨b', off', ea, p0, _⟩ := HRx.out.all (i := j0) (by rw [HN.out]; omega)
            cases ea
            have hkj : Hid (kat L j0 = bs (rat L j0).1) := hidIt rfl
            generalize (rat L j0).1 = pk at p0 hkj
            have hless := less_of pk x
            have hpos : (0 : Int) < ((j0 : Int) + 1) := by omega
            by_cases hlt : bs pk < bs x
            · rw [decide_eq_true hlt] at hless
              have HKN : Hid (∀ q, q + 1 < j0 + 1 + 1 → kat L q < kat L (q + 1)) := hidIt (fun q hq => by
                rcases Nat.lt_succ_iff_lt_or_eq.1 (show q + 1 < j0 + 1 + 1 from hq) with h | h
                · exact HK.out q h
                · have : q = j0 := by omega
                  subst this
                  rw [hkj.out, hkey.out]
                  exact hlt)
              clear hlt
              go_wp2_with (fail)
              go_loopw [5] (fun y wx => ∃ q : Nat, y = .int .i64 q ∧ q ≤ x.size ∧ Hid (∀ j, (hj : j < x.size) → j < q → byteP x[j] = true) ∧ Hid (Below w.heap.size w wx)) (fun y _ => (x.size - intOf y).toNat)
              case atStart => exact ⟨0, rfl, by omega, hidIt (fun j _ hj => by omega), HB⟩
              case round =>
                obtain ⟨q, rfl, hq, HG, HB2⟩ := hrel
                by_cases hqn : q < x.size
                · have hqn' : (q : Int) < (x.size : Int) := by omega
                  obtain ⟨n, hb⟩ : ∃ n, (x[q]).toNat = n := ⟨_, rfl⟩
                  rcases byte_arms n with a1 | a2 | a3
                  · have q1 : decide (((x[q]).toNat : Int) < 33) = false := by rw [hb]; simp; omega
                    have q2 : decide ((126 : Int) < ((x[q]).toNat : Int)) = false := by rw [hb]; simp; omega
                    have HOK : Hid (byteP x[q] = true) := hidIt (byteP_yes (by omega) (by omega))
                    clear hb
                    go_wp2_with (fail)
                    refine ⟨⟨q + 1, by simp, by omega, hidIt (fun j hj hj' => ?_), HB2⟩, by simp [intOf]; omega⟩
                    rcases Nat.lt_or_ge j q with h' | h'
                    · exact HG.out j hj h'
                    · have : j = q := by omega
                      subst this
                      exact HOK.out
                  · have q1 : decide (((x[q]).toNat : Int) < 33) = true := by rw [hb]; simp; omega
                    have er := N2i.out (HX1.out q hqn (byteP_no (Or.inl (by omega))))
                    clear hb
                    subst er
                    go_wp2_with (fail)
                    go_ret
                    exact ⟨rfl, HB2.out⟩
                  · have q1 : decide (((x[q]).toNat : Int) < 33) = false := by rw [hb]; simp; omega
                    have q2 : decide ((126 : Int) < ((x[q]).toNat : Int)) = true := by rw [hb]; simp; omega
                    have er := N2i.out (HX1.out q hqn (byteP_no (Or.inr (by omega))))
                    clear hb
                    subst er
                    go_wp2_with (fail)
                    go_ret
                    exact ⟨rfl, HB2.out⟩
                · have hqn' : ¬ (q : Int) < (x.size : Int) := by omega
                  have HO' := hidIt (HO1.out (HX2.out (fun j hj => HG.out j hj (by omega))))
                  go_wp2_with (fail)
                  exact ⟨⟨j0 + 1 + 1, by simp, by omega, HO', HKN, HB2⟩, by simp [intOf]; omega⟩
            · have er := N3.out j0 (by omega) (by rw [hkj.out, hkey.out]; exact hlt)
              rw [decide_eq_false hlt] at hless
              subst er
              clear hlt
              go_wp2_with (fail)
              go_ret
              exact ⟨rfl, HB.out⟩
        · have h40' : (40 : Int) < (x.size : Int) := by omega
          have er := N2i.out (okP_no1 h40)
          subst er
          go_wp2_with (fail)
          go_ret
          exact ⟨rfl, HB.out⟩
      · have hin' : ¬ (i : Int) < (m : Int) := by omega
        have HI : Hid (i = m) := hidIt (by omega)
        have er := N4.out h12 (fun j hj => HO.out j (by have := HI.out; omega)) (fun j hj => HK.out j (by have := HI.out; omega))
        subst er
        go_wp2_with (fail)
        go_ret
        exact ⟨rfl, HB.out⟩
  · have h12' : (12 : Int) < (m : Int) := by omega
    have er := N1.out h12
    subst er
    go_enter Try.func20, Try.ntmps20
    go_wp2
    go_ret
    exact ⟨rfl, Below.refl _ _⟩
end Go.Proofs.Ytbdibkcamomgpaa.Ru
