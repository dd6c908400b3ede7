/-
  What the laws of chapter 11 ask besides: two books that read alike; a text among texts; what the drawing functions answer, whatever the bytes.
-/
import Derived.Test.YtmhfaeddfibohaaBokS
import Derived.Test.YtmhfaeddfibohaaNameR
import Derived.Test.YtmhfaeddfibohaaDraw
import Derived.Laws.StructEq
import Derived.Deep.QuietTactic
import Derived.BigQuiet
import Derived.WideLaws
namespace Go.Proofs.Ytmhfaeddfibohaa.En
open Go.ChangeShapes Go.WideShapes Go.ChangeAt Go.RowKit
open Dr
set_option linter.unusedVariables false
set_option maxRecDepth 100000 in
set_option maxHeartbeats 4000000 in
theorem likeBook_same (a b : Option Addr) (ca cb : Nat) (L : List Rw) (w : World) (ha : Rd w a L) (hb : Rd w b L) (hl : L.length ≤ 9223372036854775806) :
    Calls Try.prog 14 #[.slice a L.length ca, .slice b L.length cb] w fun e w' => e = .returned (.bool true) ∧ Below w.heap.size w w' := by
  generalize hn : L.length = n at *
  have HA := hidIt ha
  have HB := hidIt hb
  have HN := hidIt hn
  clear ha hb hn
  have hnn : ((n : Int) != (n : Int)) = false := by simp
  go_enter Try.func14, Try.ntmps14
  go_wp2_with (fail)
  go_loopw [5] (fun y wx => ∃ i : Nat, y = .int .i64 i ∧ i ≤ n ∧ Hid (Below w.heap.size w wx)) (fun y _ => (n - intOf y).toNat)
  case atStart => exact ⟨0, rfl, by omega, hidIt (Below.refl _ _)⟩
  case round =>
    obtain ⟨i, rfl, hi, KX⟩ := hrel
    have RA := hidIt (HA.out.kept KX.out)
    have RB := hidIt (HB.out.kept KX.out)
    have KX' := hidIt (fun x => Go.Proofs.Ytmhfaeddfibohaa.Below.drewN KX.out x)
    by_cases hin : i < n
    · have hin' : (i : Int) < (n : Int) := by omega
      obtain ⟨b1, o1, rfl, c0, c1, c2, c3, c4⟩ := RA.out.all (i := i) (by rw [HN.out]; omega)
      obtain ⟨b2, o2, rfl, d0, d1, d2, d3, d4⟩ := RB.out.all (i := i) (by rw [HN.out]; omega)
      generalize rat L i = x at c0 c1 c2 c3 c4 d0 d1 d2 d3 d4
      obtain ⟨x0, x1, x2, x3, x4⟩ := x
      simp only at c0 c1 c2 c3 c4 d0 d1 d2 d3 d4
      have e0 := eq_of x0 x0
      rw [decide_eq_true rfl] at e0
      have e1 := eq_of x1 x1
      rw [decide_eq_true rfl] at e1
      have e2 : (x2 == x2) = true := by simp
      have e3 : (x3 == x3) = true := by simp
      have e4 : (x4 == x4) = true := by simp
      clear RA RB HA HB
      go_wp2_with (fail)
      go_quiet (fail)
      go_wp2_with (fail)
      exact ⟨⟨i + 1, by simp, by omega, hidIt (KX'.out _)⟩, by simp [intOf]; omega⟩
    · have hin' : ¬ (i : Int) < (n : Int) := by omega
      go_wp2_with (fail)
      go_ret
      exact ⟨rfl, KX.out⟩
set_option maxRecDepth 100000 in
set_option maxHeartbeats 4000000 in
theorem likeTexts_same (a b : Option Addr) (ca cb : Nat) (L : List ByteArray) (w : World) (ha : Nm.Rd w a L) (hb : Nm.Rd w b L) (hl : L.length ≤ 9223372036854775806) :
    Calls Try.prog 27 #[.slice a L.length ca, .slice b L.length cb] w fun e w' => e = .returned (.bool true) ∧ Below w.heap.size w w' := by
  generalize hn : L.length = n at *
  have HA := hidIt ha
  have HB := hidIt hb
  have HN := hidIt hn
  clear ha hb hn
  have hnn : ((n : Int) != (n : Int)) = false := by simp
  go_enter Try.func27, Try.ntmps27
  go_wp2_with (fail)
  go_loopw [5] (fun y wx => ∃ i : Nat, y = .int .i64 i ∧ i ≤ n ∧ Below w.heap.size w wx) (fun y _ => (n - intOf y).toNat)
  case atStart => exact ⟨0, rfl, by omega, Below.refl _ _⟩
  case round =>
    obtain ⟨i, rfl, hi, hB⟩ := hrel
    have RA := hidIt (HA.out.kept hB)
    have RB := hidIt (HB.out.kept hB)
    have KX := hidIt hB
    clear hB
    by_cases hin : i < n
    · have hin' : (i : Int) < (n : Int) := by omega
      obtain ⟨b1, o1, rfl, c0⟩ := RA.out.cell i (by rw [HN.out]; omega)
      obtain ⟨b2, o2, rfl, d0⟩ := RB.out.cell i (by rw [HN.out]; omega)
      generalize Nm.sat L i = s at c0 d0
      clear RA RB HA HB
      go_wp2_with (fail)
      go_quiet (fail)
      go_wp2_with (fail)
      exact ⟨⟨i + 1, by simp, by omega, Go.Proofs.Ytmhfaeddfibohaa.Below.drewN KX.out _⟩, by simp [intOf]; omega⟩
    · have hin' : ¬ (i : Int) < (n : Int) := by omega
      go_wp2_with (fail)
      go_ret
      exact ⟨rfl, KX.out⟩
theorem not_mem_take {L : List ByteArray} {s : ByteArray} {i : Nat} (h : bs s ∉ (L.take i).map bs) (hi : i < L.length) (hs : bs (Nm.sat L i) ≠ bs s) : bs s ∉ (L.take (i + 1)).map bs := by
  rw [List.take_add_one, List.map_append]
  intro hm
  rcases List.mem_append.1 hm with hm | hm
  · exact h hm
  · rw [List.getElem?_eq_getElem hi] at hm
    simp only [Option.toList, List.map_cons, List.map_nil, List.mem_singleton] at hm
    apply hs
    rw [hm, Nm.sat]
    simp [List.getD, List.getElem?_eq_getElem hi]
theorem mem_at {L : List ByteArray} {s : ByteArray} {i : Nat} (hi : i < L.length) (e : bs (Nm.sat L i) = bs s) : decide (bs s ∈ L.map bs) = true := by
  rw [decide_eq_true_eq, ← e]
  refine List.mem_map.2 ⟨_, ?_, rfl⟩
  rw [Nm.sat]
  simp [List.getD, List.getElem?_eq_getElem hi]
set_option maxRecDepth 100000 in
set_option maxHeartbeats 4000000 in
theorem hasText_any (a : Option Addr) (ca : Nat) (L : List ByteArray) (s : ByteArray) (w : World) (ha : Nm.Rd w a L) (hl : L.length ≤ 9223372036854775806) :
    Calls Try.prog 31 #[.slice a L.length ca, .string s] w fun e w' => e = .returned (.bool (decide (bs s ∈ L.map bs))) ∧ Below w.heap.size w w' := by
  have HM := hidIt (fun i (hi : i < L.length) (e : bs (Nm.sat L i) = bs s) => mem_at hi e)
  have HF := hidIt (fun (h : bs s ∉ (L.take L.length).map bs) => show decide (bs s ∈ L.map bs) = false by rw [List.take_length] at h; exact decide_eq_false h)
  have HT := hidIt (fun i (h : bs s ∉ (L.take i).map bs) (hi : i < L.length) (hs : bs (Nm.sat L i) ≠ bs s) => not_mem_take h hi hs)
  generalize decide (bs s ∈ L.map bs) = r at *
  generalize hn : L.length = n at *
  have HA := hidIt ha
  have HN := hidIt hn
  clear ha hn
  go_enter Try.func31, Try.ntmps31
  go_wp2_with (fail)
  go_loopw [5] (fun y wx => ∃ i : Nat, y = .int .i64 i ∧ i ≤ n ∧ Hid (bs s ∉ (L.take i).map bs) ∧ Hid (Below w.heap.size w wx)) (fun y _ => (n - intOf y).toNat)
  case atStart => exact ⟨0, rfl, by omega, hidIt (by simp), hidIt (Below.refl _ _)⟩
  case round =>
    obtain ⟨i, rfl, hi, HO, KX⟩ := hrel
    by_cases hin : i < n
    · have hin' : (i : Int) < (n : Int) := by omega
      obtain ⟨b1, o1, rfl, c0⟩ := (HA.out.kept KX.out).cell i (by rw [HN.out]; omega)
      have HMi := hidIt (HM.out i hin)
      have HTi := hidIt (HT.out i HO.out hin)
      generalize Nm.sat L i = x at c0 HMi HTi
      have heq := eq_of x s
      by_cases he : bs x = bs s
      · rw [decide_eq_true he] at heq
        have hr : r = true := HMi.out he
        subst hr
        clear he
        go_wp2_with (fail)
        go_ret
        exact ⟨rfl, KX.out⟩
      · rw [decide_eq_false he] at heq
        have HO' := hidIt (HTi.out he)
        clear he
        go_wp2_with (fail)
        exact ⟨⟨i + 1, by simp, by omega, HO', KX⟩, by simp [intOf]; omega⟩
    · have hin' : ¬ (i : Int) < (n : Int) := by omega
      have ei : i = n := by omega
      have hr : r = false := HF.out (ei ▸ HO.out)
      subst hr
      clear ei
      go_wp2_with (fail)
      go_ret
      exact ⟨rfl, KX.out⟩
set_option maxRecDepth 100000 in
set_option maxHeartbeats 4000000 in
theorem l11DrawKey_any (B c : Nat) (a : Option Addr) (len cap : Nat) (w : World) (hC : Cur B w c a len cap) :
    Calls Try.prog 50 #[.pointer (some ⟨c, 0, none⟩)] w fun e w' => ∃ t : ByteArray, e = .returned (.string t) ∧ t.size ≤ 40 ∧ Cur B w' c a len cap ∧ Only c w w' := by
  have hlt := hC.lt
  have HC := hidIt hC
  clear hC
  go_enter Try.func50, Try.ntmps50
  go_wp2_with (fail)
  refine (l1Below_any B c a len cap _ _ (by decide) (HC.out.kept ((Below.refl (c + 1) _).alloc (by omega) _))).mono ?_
  rintro e w2 ⟨x, x0, x1, rfl, hC2, hO2⟩
  have z2 : w.heap.size < w2.heap.size := by have := hO2.size; simp at this; omega
  have hcell := fun o => hO2.cell (p := ⟨w.heap.size, o, none⟩) (by simp) (by simp; omega)
  have C2 := hidIt hC2
  have O2 := hidIt (((Only.refl c w).alloc _).trans hO2)
  clear hC2 hO2
  have hx : x = 0 ∨ x = 1 ∨ x = 2 ∨ x = 3 ∨ x = 4 ∨ x = 5 ∨ x = 6 := by omega
  clear x0 x1
  rcases hx with rfl | rfl | rfl | rfl | rfl | rfl | rfl
  all_goals
    go_wp2_with (fail)
    go_ret
    exact ⟨_, rfl, by decide, C2.out, O2.out⟩
end Go.Proofs.Ytmhfaeddfibohaa.En
