/-
  Joined, Written, ValueOf and Alive of the specification.
-/
import Derived.Test.YtmhfaeddfibohaaBokJ
import Derived.Test.YtmhfaeddfibohaaNameR
namespace Go.Proofs.Ytmhfaeddfibohaa.En
open Go.ChangeShapes Go.WideShapes Go.ChangeAt Go.RowKit
open Go.Proofs.Ytmhfaeddfibohaa.Rc (BelowBy BelowBy.one wp_region_below calls_below calls_same)
open Go.Proofs.Ytmhfaeddfibohaa.Bk (Bytes okE newB okBk look Ris IsJoin joinB)
set_option linter.unusedVariables false
attribute [local go_sem] str_gtr str_leq
abbrev shortR (L : List Rw) : Prop := ∀ i, i < L.length → (rat L i).1.size ≤ 9223372036854775807 ∧ (rat L i).2.1.size ≤ 9223372036854775807
/-- What Joined answers, in rows. -/
theorem joined_rows (A B : List Rw) : ∃ J : List Rw, toB J = (joinB (toB A) (toB B)).1 := by
  have h : ∀ L : List Bk.En, ∃ J : List Rw, toB J = L := by
    intro L
    induction L with
    | nil => exact ⟨[], rfl⟩
    | cons x L ih =>
      obtain ⟨J, hJ⟩ := ih
      refine ⟨(⟨x.key.toArray⟩, ⟨x.value.toArray⟩, x.time, x.node, x.gone) :: J, ?_⟩
      rw [toB, List.map_cons, ← hJ]
      rfl
  exact h _
set_option maxRecDepth 100000 in
set_option maxHeartbeats 4000000 in
theorem spec_Joined (aA aB : Option Addr) (cA cB : Nat) (A B : List Rw) (w : World) (hA : Rd w aA A) (hB : Rd w aB B) (hnA : aA = none → cA = 0) (hlA : A.length ≤ 9223372036854775807) (hlB : B.length ≤ 9223372036854775807) (hsA : shortR A) (hsB : shortR B) :
    Calls Try.prog 13 #[.slice aA A.length cA, .slice aB B.length cB] w fun e w' => ∃ v J, e = .returned (.tuple #[v, .bool (joinB (toB A) (toB B)).2]) ∧ toB J = (joinB (toB A) (toB B)).1 ∧ Own w' w.heap.size v J ∧ Below w.heap.size w w' := by
  have CA := hidIt (fun W (r : Rd W aA A) => spec_BookOk aA cA A W r hlA hsA)
  have CB := hidIt (fun W (r : Rd W aB B) => spec_BookOk aB cB B W r hlB hsB)
  have HRA := hidIt hA
  have HRB := hidIt hB
  clear hA hB
  cases okA : okBk (toB A) with
  | false =>
    have e : joinB (toB A) (toB B) = ([], false) := by unfold joinB; rw [if_neg (by rw [okA]; simp)]
    rw [e]
    rw [okA] at CA
    clear e okA
    generalize A.length = la at *
    generalize B.length = lb at *
    go_enter Try.func13, Try.ntmps13
    go_wp2_with (fail)
    refine (CA.out _ HRA.out).mono ?_
    rintro e w1 ⟨rfl, k1⟩
    have HB1 := hidIt k1
    clear k1
    go_wp2_with (fail)
    refine bodyPost_ret (v := .tuple #[.slice (some ⟨w1.heap.size, 0, none⟩) 0 0, .bool false]) (by simp [results, Try.results13, go_sem]) rfl ⟨_, [], rfl, rfl, (Own.new w1).mono HB1.out.size, HB1.out.alloc HB1.out.size _⟩
  | true =>
    rw [okA] at CA
    cases okB : okBk (toB B) with
    | false =>
      have e : joinB (toB A) (toB B) = ([], false) := by unfold joinB; rw [if_neg (by rw [okB]; simp)]
      rw [e]
      rw [okB] at CB
      clear e okA okB
      generalize A.length = la at *
      generalize B.length = lb at *
      go_enter Try.func13, Try.ntmps13
      go_wp2_with (fail)
      refine (CA.out _ HRA.out).mono ?_
      rintro e w1 ⟨rfl, k1⟩
      have HB1 := hidIt k1
      clear k1
      go_wp2_with (fail)
      refine (CB.out _ (HRB.out.kept HB1.out)).mono ?_
      rintro e w2 ⟨rfl, k2⟩
      have HB2 := hidIt (HB1.out.trans (k2.mono HB1.out.size))
      clear k2
      go_wp2_with (fail)
      refine bodyPost_ret (v := .tuple #[.slice (some ⟨w2.heap.size, 0, none⟩) 0 0, .bool false]) (by simp [results, Try.results13, go_sem]) rfl ⟨_, [], rfl, rfl, (Own.new w2).mono HB2.out.size, HB2.out.alloc HB2.out.size _⟩
    | true =>
      rw [okB] at CB
      have l1 := Bk.ok_len okA
      have l2 := Bk.ok_len okB
      rw [toB_length] at l1 l2
      have CJ := hidIt (fun W (r1 : Rd W aA A) (r2 : Rd W aB B) => spec_l11Join aA aB cA cB A B W r1 r2 hnA (Bk.ok_ris okA) (Bk.ok_ris okB) (by omega))
      have HJ := hidIt (fun J (h : IsJoin (toB A) (toB B) J) => Bk.join_of okA okB h)
      clear okA okB hsA hsB
      generalize joinB (toB A) (toB B) = r at HJ ⊢
      generalize A.length = la at *
      generalize B.length = lb at *
      go_enter Try.func13, Try.ntmps13
      go_wp2_with (fail)
      refine (CA.out _ HRA.out).mono ?_
      rintro e w1 ⟨rfl, k1⟩
      have HB1 := hidIt k1
      clear k1
      go_wp2_with (fail)
      refine (CB.out _ (HRB.out.kept HB1.out)).mono ?_
      rintro e w2 ⟨rfl, k2⟩
      have HB2 := hidIt (HB1.out.trans (k2.mono HB1.out.size))
      clear k2
      go_wp2_with (fail)
      refine (CJ.out _ (HRA.out.kept HB2.out) (HRB.out.kept HB2.out)).mono ?_
      rintro e w3 ⟨v, J, rfl, hv, o3, hj, hlj, k3⟩
      have HB3 := hidIt (HB2.out.trans (k3.mono HB2.out.size))
      have HO3 := hidIt (o3.mono HB2.out.size)
      have HR := hidIt (HJ.out _ hj)
      clear k3 o3 hj hv
      obtain ⟨b, cap, rfl, _⟩ := HO3.out.form
      generalize hjl : J.length = lj at *
      have HJL := hidIt hjl
      clear hjl
      by_cases h80 : lj ≤ 80
      · have h80' : ¬ (80 : Int) < (lj : Int) := by omega
        have er : Hid (r = (toB J, true)) := hidIt (by rw [HR.out, if_pos (by rw [toB_length, HJL.out]; exact h80)])
        go_wp2_with (fail)
        refine bodyPost_ret (v := .tuple #[.slice b lj cap, .bool true]) (by simp [results, Try.results13, go_sem]) rfl ⟨_, J, by rw [er.out], by rw [er.out], HO3.out, HB3.out⟩
      · have h80' : (80 : Int) < (lj : Int) := by omega
        have er : Hid (r = ([], false)) := hidIt (by rw [HR.out, if_neg (by rw [toB_length, HJL.out]; exact h80)])
        go_wp2_with (fail)
        refine bodyPost_ret (v := .tuple #[.slice (some ⟨w3.heap.size, 0, none⟩) 0 0, .bool false]) (by simp [results, Try.results13, go_sem]) rfl ⟨_, [], by rw [er.out], by rw [er.out]; rfl, (Own.new w3).mono HB3.out.size, HB3.out.alloc HB3.out.size _⟩
set_option maxRecDepth 100000 in
set_option maxHeartbeats 4000000 in
theorem spec_Written (aA : Option Addr) (cA : Nat) (A : List Rw) (x : Rw) (w : World) (hA : Rd w aA A) (hnA : aA = none → cA = 0) (hlA : A.length ≤ 9223372036854775807) (hsA : shortR A) (hx1 : x.1.size ≤ 9223372036854775807) (hx2 : x.2.1.size ≤ 9223372036854775807) :
    Calls Try.prog 26 #[.slice aA A.length cA, rv x] w fun e w' => ∃ v J, e = .returned (.tuple #[v, .bool (joinB (toB A) [toE x]).2]) ∧ toB J = (joinB (toB A) [toE x]).1 ∧ Own w' w.heap.size v J ∧ Below w.heap.size w w' := by
  have CJ := hidIt (fun W b (r1 : Rd W aA A) (r2 : Rd W b [x]) => spec_Joined aA b cA 1 A [x] W r1 r2 hnA hlA (by simp) hsA (fun i hi => by
    have : i = 0 := by simp at hi; omega
    subst this
    exact ⟨hx1, hx2⟩))
  have e : toB [x] = [toE x] := rfl
  rw [e] at CJ
  simp only [List.length_singleton] at CJ
  generalize joinB (toB A) [toE x] = r at CJ ⊢
  have HRA := hidIt hA
  clear e hA hsA hx1 hx2
  generalize A.length = la at *
  obtain ⟨s, u, q, m, f⟩ := x
  have HB := hidIt (show Below w.heap.size w ((w.alloc (.cells (rc (s, u, q, m, f)) 30)).alloc (.cells (rc (s, u, q, m, f)) 30)) by go_grown)
  have HO : Hid (Own ((w.alloc (.cells (rc (s, u, q, m, f)) 30)).alloc (.cells (rc (s, u, q, m, f)) 30)) (w.heap.size + 1) (.slice (some ⟨w.heap.size + 1, 0, none⟩) 1 1) [(s, u, q, m, f)]) := hidIt (Own.one _ _ (by simp))
  obtain ⟨_, _, e1, _, _, rR, _⟩ := HO.out.form
  have eb := (Value.slice.inj e1).1
  subst eb
  have HRX := hidIt rR
  clear e1 rR HO
  go_enter Try.func26, Try.ntmps26
  go_wp2_with (fail)
  refine (CJ.out _ _ (HRA.out.kept HB.out) HRX.out).mono ?_
  rintro e w1 ⟨v, J, rfl, hJ, o1, k1⟩
  have HB1 := hidIt (HB.out.trans (k1.mono HB.out.size))
  have HO1 := hidIt (o1.mono HB.out.size)
  have HJ := hidIt hJ
  clear o1 k1 hJ
  obtain ⟨b, cap, rfl, _⟩ := HO1.out.form
  go_wp2_with (fail)
  refine bodyPost_ret (v := .tuple #[.slice b J.length cap, .bool r.2]) (by simp [results, Try.results26, go_sem]) rfl ⟨_, J, rfl, HJ.out, HO1.out, HB1.out⟩
end Go.Proofs.Ytmhfaeddfibohaa.En
