/-
  The program's Joined and Written.
-/
import Derived.Test.YtkkbccppfppalaaHepO
namespace Go.Proofs.Ytkkbccppfppalaa.En
open Go.ChangeShapes Go.WideShapes Go.ChangeAt Go.RowKit
open Go.Proofs.Ytkkbccppfppalaa.Bk (Bytes okE newB okBk look Ris IsJoin joinB)
set_option linter.unusedVariables false
set_option maxRecDepth 100000 in
set_option maxHeartbeats 4000000 in
theorem impl_Joined (aA aB : Option Addr) (cA cB : Nat) (A B : List Rw) (w : World) (hA : Rd w aA A) (hB : Rd w aB B) (leA : A.length ≤ cA) (leB : B.length ≤ cB) (hlA : A.length ≤ 9223372036854775807) (hlB : B.length ≤ 9223372036854775807) (hsA : shortR A) (hsB : shortR B) :
    Calls Try.prog 55 #[.slice aA A.length cA, .slice aB B.length cB] w fun e w' => ∃ v J, e = .returned (.tuple #[v, .bool (joinB (toB A) (toB B)).2]) ∧ toB J = (joinB (toB A) (toB B)).1 ∧ Own w' w.heap.size v J ∧ Below w.heap.size w w' := by
  have CA := hidIt (fun W (r : Rd W aA A) => impl_BookOk aA cA A W r hlA hsA)
  have CB := hidIt (fun W (r : Rd W aB B) => impl_BookOk aB cB B W r hlB hsB)
  have HRA := hidIt hA
  have HRB := hidIt hB
  clear hA hB
  cases okA : okBk (toB A) with
  | false =>
    have e : joinB (toB A) (toB B) = ([], false) := by unfold joinB; rw [if_neg (by rw [okA]; simp)]
    rw [e]
    rw [okA] at CA
    clear e okA
    generalize A.length = la at *
    generalize B.length = lb at *
    go_enter Try.func55, Try.ntmps55
    go_wp2_with (fail)
    refine (CA.out _ HRA.out).mono ?_
    rintro e w1 ⟨rfl, k1⟩
    have HB1 := hidIt k1
    clear k1
    go_wp2_with (fail)
    refine bodyPost_ret (v := .tuple #[.slice (some ⟨w1.heap.size, 0, none⟩) 0 0, .bool false]) (by simp [results, Try.results55, go_sem]) rfl ⟨_, [], rfl, rfl, (Own.new w1).mono HB1.out.size, HB1.out.alloc HB1.out.size _⟩
  | true =>
    rw [okA] at CA
    cases okB : okBk (toB B) with
    | false =>
      have e : joinB (toB A) (toB B) = ([], false) := by unfold joinB; rw [if_neg (by rw [okB]; simp)]
      rw [e]
      rw [okB] at CB
      clear e okA okB
      generalize A.length = la at *
      generalize B.length = lb at *
      go_enter Try.func55, Try.ntmps55
      go_wp2_with (fail)
      refine (CA.out _ HRA.out).mono ?_
      rintro e w1 ⟨rfl, k1⟩
      have HB1 := hidIt k1
      clear k1
      go_wp2_with (fail)
      refine (CB.out _ (HRB.out.kept HB1.out)).mono ?_
      rintro e w2 ⟨rfl, k2⟩
      have HB2 := hidIt (HB1.out.trans (k2.mono HB1.out.size))
      clear k2
      go_wp2_with (fail)
      refine bodyPost_ret (v := .tuple #[.slice (some ⟨w2.heap.size, 0, none⟩) 0 0, .bool false]) (by simp [results, Try.results55, go_sem]) rfl ⟨_, [], rfl, rfl, (Own.new w2).mono HB2.out.size, HB2.out.alloc HB2.out.size _⟩
    | true =>
      rw [okB] at CB
      have l1 := Bk.ok_len okA
      have l2 := Bk.ok_len okB
      rw [toB_length] at l1 l2
      have CR := hidIt (fun W q hq (r1 : Rd W aA A) (r2 : Rd W aB B) => impl_restsOf (w := W) (q := q) (ca := cA) (cb := cB) hq r1 r2 leA leB)
      have CJ := hidIt (fun W base b (m : Made W base b A B) h1 h2 h3 => impl_newest m h1 h2 h3 (Bk.ok_ris okA) (Bk.ok_ris okB) l1 l2)
      have HJ := hidIt (fun J (h : IsJoin (toB A) (toB B) J) => Bk.join_of okA okB h)
      clear okA okB hsA hsB
      generalize joinB (toB A) (toB B) = r at HJ ⊢
      generalize A.length = la at *
      generalize B.length = lb at *
      go_enter Try.func55, Try.ntmps55
      go_wp2_with (fail)
      refine (CA.out _ HRA.out).mono ?_
      rintro e w1 ⟨rfl, k1⟩
      have HB1 := hidIt k1
      clear k1
      go_wp2_with (fail)
      refine (CB.out _ (HRB.out.kept HB1.out)).mono ?_
      rintro e w2 ⟨rfl, k2⟩
      have HB2 := hidIt (HB1.out.trans (k2.mono HB1.out.size))
      clear k2
      have HQ : Hid ((w2.alloc (.cells #[.slice aA la cA, .slice aB lb cB] 40)).cell? ⟨w2.heap.size, 0, none⟩ = some (.slice aA la cA) ∧ (w2.alloc (.cells #[.slice aA la cA, .slice aB lb cB] 40)).cell? ⟨w2.heap.size, 1, none⟩ = some (.slice aB lb cB)) := hidIt ⟨by simp, by simp⟩
      have HBq := hidIt (HB2.out.alloc HB2.out.size (.cells #[.slice aA la cA, .slice aB lb cB] 40))
      go_wp2_with (fail)
      refine (CR.out _ _ HQ.out (HRA.out.kept HBq.out) (HRB.out.kept HBq.out)).mono ?_
      generalize w2.alloc (.cells #[.slice aA la cA, .slice aB lb cB] 40) = w3 at HBq ⊢
      clear HQ
      rintro e w4 ⟨rfl, m4, k4⟩
      have HM := hidIt m4
      have HB4 := hidIt k4
      have HBL : Hid (w3.heap.size + 1 < w4.heap.size) := hidIt (by
        obtain ⟨g, X, Y, hg, st, hgl, _⟩ := m4
        cases st using Sta.elim with
        | zero a cap h => exact cell_block h
        | one cap p o c X u h hc hx => exact h.bl
        | two cap p0 o0 k0 p1 o1 k1 X Y h hc hx hy ht => exact h.bl)
      clear m4 k4
      go_wp2_with (fail)
      refine (CJ.out _ _ _ HM.out (by omega) HBL.out HB4.out.size).mono ?_
      rintro e w5 ⟨v, J, rfl, o5, j5, l5, k5⟩
      have HB5 := hidIt ((HBq.out.trans (HB4.out.mono HBq.out.size)).trans (k5.mono HBq.out.size))
      have HO5 := hidIt (o5.mono (Nat.le_trans HBq.out.size HB4.out.size))
      have HR := hidIt (HJ.out _ j5)
      clear k5 o5 j5
      obtain ⟨b, cap, rfl, _⟩ := HO5.out.form
      generalize hjl : J.length = lj at *
      have HJL := hidIt hjl
      clear hjl
      by_cases h80 : lj ≤ 80
      · have h80' : ¬ (80 : Int) < (lj : Int) := by omega
        have er : Hid (r = (toB J, true)) := hidIt (by rw [HR.out, if_pos (by rw [toB_length, HJL.out]; exact h80)])
        go_wp2_with (fail)
        refine bodyPost_ret (v := .tuple #[.slice b lj cap, .bool true]) (by simp [results, Try.results55, go_sem]) rfl ⟨_, J, by rw [er.out], by rw [er.out], HO5.out, HB5.out⟩
      · have h80' : (80 : Int) < (lj : Int) := by omega
        have er : Hid (r = ([], false)) := hidIt (by rw [HR.out, if_neg (by rw [toB_length, HJL.out]; exact h80)])
        go_wp2_with (fail)
        refine bodyPost_ret (v := .tuple #[.slice (some ⟨w5.heap.size, 0, none⟩) 0 0, .bool false]) (by simp [results, Try.results55, go_sem]) rfl ⟨_, [], by rw [er.out], by rw [er.out]; rfl, (Own.new w5).mono HB5.out.size, HB5.out.alloc HB5.out.size _⟩
end Go.Proofs.Ytkkbccppfppalaa.En
