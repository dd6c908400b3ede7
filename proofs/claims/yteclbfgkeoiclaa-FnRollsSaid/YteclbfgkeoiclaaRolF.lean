/-
  What FnRolls asks, in plain words: what a Step comes to; likePoints of two lists that read alike.
-/
import Derived.Test.YteclbfgkeoiclaaSerS
import Derived.Test.YteclbfgkeoiclaaRollJ
import Derived.Test.YteclbfgkeoiclaaPtP
import Derived.Laws.StructEq
import Derived.Deep.RegionHeld3
namespace Go.Proofs.Yteclbfgkeoiclaa.Ro
open Go.ChangeShapes Go.WideShapes Go.ChangeAt Go.RowKit
open Go.Proofs.Yteclbfgkeoiclaa.Pt (Ln lat)
set_option linter.unusedVariables false
/-- What a Step comes to. -/
theorem step_facts (p m o n a now fr : Int) : ∃ (x : R5) (b : Bool), stepR p m o n a now fr = (x, b) ∧
    ((rollOk p m o n a = false ∧ b = false ∧ x = (0, 0, 0, 0, 0)) ∨
     (rollOk p m o n a = true ∧ b = false ∧ x = (p, m, o, n, a)) ∨
     (rollOk p m o n a = true ∧ b = true ∧ rollOk x.1 x.2.1 x.2.2.1 x.2.2.2.1 x.2.2.2.2 = true ∧ x.2.2.2.2 = now ∧ x.2.1 = m ∧ 0 ≤ a ∧ a ≤ 1000000 ∧ a + 100 ≤ now ∧ now ≤ 1000000 ∧ (p = 1 ∧ x.1 = 2 ∨ p = 2 ∧ x.1 = 3 ∨ p = 3 ∧ x.1 = 1))) := by
  cases hr : rollOk p m o n a with
  | false =>
    have e : stepR p m o n a now fr = ((0, 0, 0, 0, 0), false) := by simp [stepR, hr]
    rw [e]
    exact ⟨_, _, rfl, .inl ⟨rfl, rfl, rfl⟩⟩
  | true =>
    obtain ⟨a0, a1⟩ := roll_time hr
    obtain ⟨hm, ho, h1, h2⟩ := roll_secs hr
    by_cases hd : timB now = false ∨ now < a + 100
    · have e : stepR p m o n a now fr = ((p, m, o, n, a), false) := by simp [stepR, hr, hd]
      rw [e]
      exact ⟨_, _, rfl, .inr (.inl ⟨rfl, rfl, rfl⟩)⟩
    · have ht : timB now = true := by
        cases e : timB now with
        | false => exact absurd (.inl e) hd
        | true => rfl
      have hl : a + 100 ≤ now := by
        by_cases e : now < a + 100
        · exact absurd (.inr e) hd
        · omega
      obtain ⟨t0, t1⟩ := tim_of ht
      have mk : ∀ {p m o n a : Int}, secB m = true → secB o = true → timB a = true → (p = 1 ∧ n = 0 ∨ (p = 2 ∨ p = 3) ∧ secB n = true) → rollOk p m o n a = true := by
        intro p m o n a hm ho ha h
        unfold rollOk rollB
        rw [hm, ho, ha]
        rcases h with ⟨rfl, rfl⟩ | ⟨rfl | rfl, hn⟩
        · simp
        · simp [inB, hn]
        · simp [inB, hn]
      rcases roll_phase hr with rfl | rfl | rfl
      · by_cases hf : secB fr = false ∨ fr = o ∨ fr = m
        · have e : stepR 1 m o n a now fr = ((1, m, o, n, a), false) := by simp [stepR, hr, hd, hf]
          rw [e]
          exact ⟨_, _, rfl, .inr (.inl ⟨rfl, rfl, rfl⟩)⟩
        · have hfr : secB fr = true := by
            cases e : secB fr with
            | false => exact absurd (.inl e) hf
            | true => rfl
          have e : stepR 1 m o n a now fr = ((2, m, o, fr, now), true) := by simp [stepR, hr, hd, hf]
          rw [e]
          exact ⟨_, _, rfl, .inr (.inr ⟨rfl, rfl, mk hm ho ht (.inr ⟨.inl rfl, hfr⟩), rfl, rfl, a0, a1, hl, t1, .inl ⟨rfl, rfl⟩⟩)⟩
      · have e : stepR 2 m o n a now fr = ((3, m, o, n, now), true) := by simp [stepR, hr, hd]
        rw [e]
        exact ⟨_, _, rfl, .inr (.inr ⟨rfl, rfl, mk hm ho ht (.inr ⟨.inr rfl, h2 (by omega)⟩), rfl, rfl, a0, a1, hl, t1, .inr (.inl ⟨rfl, rfl⟩)⟩)⟩
      · have e : stepR 3 m o n a now fr = ((1, m, n, 0, now), true) := by simp [stepR, hr, hd]
        rw [e]
        exact ⟨_, _, rfl, .inr (.inr ⟨rfl, rfl, mk hm (h2 (by omega)) ht (.inl ⟨rfl, rfl⟩), rfl, rfl, a0, a1, hl, t1, .inr (.inr ⟨rfl, rfl⟩)⟩)⟩
theorem new_facts (m o a : Int) : ∃ (x : R5) (b : Bool), newR m o a = (x, b) ∧ (b = true → rollOk x.1 x.2.1 x.2.2.1 x.2.2.2.1 x.2.2.2.2 = true) := by
  unfold newR
  by_cases h : rollOk 1 m o 0 a = true
  · rw [if_pos h]
    exact ⟨_, _, rfl, fun _ => h⟩
  · rw [if_neg h]
    exact ⟨_, _, rfl, fun e => by cases e⟩
theorem sign_in {p m o n a : Int} (h : rollOk p m o n a = true) : signR p m o n a ∈ secR p m o n a := by
  unfold signR secR
  simp only [h]
  rcases roll_phase h with e | e | e
  · subst e; simp
  · subst e; simp
  · subst e; simp
set_option maxRecDepth 100000 in
set_option maxHeartbeats 4000000 in
theorem likePoints_any (a b : Option Addr) (ca cb : Nat) (L : List Ln) (w : World) (ha : Pt.Rd w a L) (hb : Pt.Rd w b L) (hl : L.length ≤ 9223372036854775806) :
    Calls Try.prog 13 #[.slice a L.length ca, .slice b L.length cb] w fun e w' => e = .returned (.bool true) ∧ Below w.heap.size w w' := by
  generalize hn : L.length = n at *
  have HA := hidIt ha
  have HB := hidIt hb
  have HN := hidIt hn
  clear ha hb hn
  have hnn : ((n : Int) != (n : Int)) = false := by simp
  go_enter Try.func13, Try.ntmps13
  go_wp2_with (fail)
  go_loopw [5] (fun y wx => ∃ i : Nat, y = .int .i64 i ∧ i ≤ n ∧ Hid (Below w.heap.size w wx)) (fun y _ => (n - intOf y).toNat)
  case atStart => exact ⟨0, rfl, by omega, hidIt (Below.refl _ _)⟩
  case round =>
    obtain ⟨i, rfl, hi, KX⟩ := hrel
    have RA := hidIt (HA.out.kept KX.out)
    have RB := hidIt (HB.out.kept KX.out)
    have KX' := hidIt (fun x => Go.Proofs.Yteclbfgkeoiclaa.Below.drewN KX.out x)
    by_cases hin : i < n
    · have hin' : (i : Int) < (n : Int) := by omega
      obtain ⟨b1, o1, rfl, c0, c1⟩ := RA.out.cell i (by rw [HN.out]; omega)
      obtain ⟨b2, o2, rfl, d0, d1⟩ := RB.out.cell i (by rw [HN.out]; omega)
      generalize lat L i = x at c0 c1 d0 d1
      obtain ⟨s, q⟩ := x
      simp only at c0 c1 d0 d1
      have e3 : (s == s) = true := by simp
      have e4 : (q == q) = true := by simp
      clear RA RB HA HB
      go_wp2_with (fail)
      go_quiet (fail)
      go_wp2_with (fail)
      exact ⟨⟨i + 1, by simp, by omega, hidIt (KX'.out _)⟩, by simp [intOf]; omega⟩
    · have hin' : ¬ (i : Int) < (n : Int) := by omega
      go_wp2_with (fail)
      go_ret
      exact ⟨rfl, KX.out⟩
end Go.Proofs.Yteclbfgkeoiclaa.Ro
