/-
  Merged of the specification; what two lists of Members come to.
-/
import Derived.Test.YtlcbapijpdlolaaMbJ
import Derived.Test.YtlcbapijpdlolaaMbT
namespace Go.Proofs.Ytlcbapijpdlolaa.Mk
set_option linter.unusedVariables false
theorem ris_short : ∀ (L : List En) (lo : Int), Ris L → (∀ e ∈ L, lo ≤ e.key ∧ e.key ≤ 7) → L.length ≤ (8 - lo).toNat
  | [], lo, _, _ => by simp
  | a :: L, lo, h, k => by
    obtain ⟨h1, h2⟩ := ris_cons.1 h
    have ha := k a (List.mem_cons_self ..)
    have := ris_short L (a.key + 1) h2 (fun e he => ⟨by have := h1 e he; omega, (k e (List.mem_cons_of_mem _ he)).2⟩)
    simp only [List.length_cons]
    omega
theorem okE_key {e : En} (h : okE e = true) : 0 ≤ e.key ∧ e.key ≤ 7 := by
  unfold okE at h
  simp only [Bool.and_eq_true, decide_eq_true_eq] at h
  exact ⟨h.1.1.1.1.1, h.1.1.1.1.2⟩
/-- What Merged answers. -/
def mergeB (A B : List En) : List En := if okBk A = true ∧ okBk B = true then mergeE A B else []
theorem merge_no {A B : List En} (h : ¬ (okBk A = true ∧ okBk B = true)) : mergeB A B = [] := if_neg h
theorem merge_of {A B J : List En} (hA : okBk A = true) (hB : okBk B = true) (h : IsJoin A B J) : mergeB A B = J := by
  unfold mergeB
  rw [if_pos ⟨hA, hB⟩]
  exact (merge_join A B (ok_ris hA) (ok_ris hB)).unique h
theorem merge_is {A B : List En} (hA : okBk A = true) (hB : okBk B = true) : IsJoin A B (mergeB A B) := by
  unfold mergeB
  rw [if_pos ⟨hA, hB⟩]
  exact merge_join A B (ok_ris hA) (ok_ris hB)
/-- What is merged is right. -/
theorem merge_ok {A B J : List En} (hA : okBk A = true) (hB : okBk B = true) (h : IsJoin A B J) : okBk J = true := by
  have hall : ∀ e ∈ J, okE e = true := fun e he => by
    rcases h.mem he with q | q
    · exact ok_all hA q
    · exact ok_all hB q
  exact ok_mk (ris_short J 0 h.ris (fun e he => okE_key (hall e he))) hall h.ris
theorem mergeB_ok (A B : List En) : okBk (mergeB A B) = true := by
  by_cases h : okBk A = true ∧ okBk B = true
  · exact merge_ok h.1 h.2 (merge_is h.1 h.2)
  · rw [merge_no h]; rfl
end Go.Proofs.Ytlcbapijpdlolaa.Mk
namespace Go.Proofs.Ytlcbapijpdlolaa.Mm
open Go.ChangeShapes Go.WideShapes Go.ChangeAt Go.RowKit
open Go.Proofs.Ytlcbapijpdlolaa.Mk (okE newB okBk look Ris IsJoin mergeB)
set_option linter.unusedVariables false
theorem merged_rows (A B : List Rw) : ∃ J : List Rw, toB J = mergeB (toB A) (toB B) := by
  by_cases h : okBk (toB A) = true ∧ okBk (toB B) = true
  · have j := Mk.merge_is h.1 h.2
    have all : ∀ M : List Mk.En, (∀ e ∈ M, e ∈ mergeB (toB A) (toB B)) → ∃ J : List Rw, toB J = M := by
      intro M
      induction M with
      | nil => intro _; exact ⟨[], rfl⟩
      | cons e M ih =>
        intro hM
        obtain ⟨J, hJ⟩ := ih (fun x hx => hM x (List.mem_cons_of_mem _ hx))
        obtain ⟨x, hx⟩ : ∃ x : Rw, toE x = e := by
          rcases j.mem (hM e (List.mem_cons_self ..)) with q | q
          · obtain ⟨x, _, hx⟩ := List.mem_map.1 q; exact ⟨x, hx⟩
          · obtain ⟨x, _, hx⟩ := List.mem_map.1 q; exact ⟨x, hx⟩
        exact ⟨x :: J, by rw [← hJ, ← hx]; rfl⟩
    exact all _ (fun e he => he)
  · exact ⟨[], by rw [Mk.merge_no h]; rfl⟩
set_option maxRecDepth 100000 in
set_option maxHeartbeats 4000000 in
theorem spec_Merged (aA aB : Option Addr) (cA cB : Nat) (A B : List Rw) (w : World) (hA : Rd w aA A) (hB : Rd w aB B) (hnA : aA = none → cA = 0) (hlA : A.length ≤ 9223372036854775807) (hlB : B.length ≤ 9223372036854775807) :
    Calls Try.prog 14 #[.slice aA A.length cA, .slice aB B.length cB] w fun e w' => ∃ v J, e = .returned v ∧ toB J = mergeB (toB A) (toB B) ∧ Own w' w.heap.size v J ∧ Below w.heap.size w w' := by
  have CA := hidIt (fun W (r : Rd W aA A) => spec_MembersOk aA cA A W r hlA)
  have CB := hidIt (fun W (r : Rd W aB B) => spec_MembersOk aB cB B W r hlB)
  have HRA := hidIt hA
  have HRB := hidIt hB
  clear hA hB
  cases okA : okBk (toB A) with
  | false =>
    rw [Mk.merge_no (fun h => by rw [okA] at h; exact absurd h.1 (by decide))]
    rw [okA] at CA
    clear okA
    generalize A.length = la at *
    generalize B.length = lb at *
    go_enter Try.func14, Try.ntmps14
    go_wp2_with (fail)
    refine (CA.out _ HRA.out).mono ?_
    rintro e w1 ⟨rfl, k1⟩
    have HB1 := hidIt k1
    clear k1
    go_wp2_with (fail)
    go_ret
    first | exact ⟨_, [], rfl, rfl, (Own.new w1).mono HB1.out.size, HB1.out.alloc HB1.out.size _⟩ | exact ⟨_, rfl, [], rfl, (Own.new w1).mono HB1.out.size, HB1.out.alloc HB1.out.size _⟩
  | true =>
    rw [okA] at CA
    cases okB : okBk (toB B) with
    | false =>
      rw [Mk.merge_no (fun h => by rw [okB] at h; exact absurd h.2 (by decide))]
      rw [okB] at CB
      clear okA okB
      generalize A.length = la at *
      generalize B.length = lb at *
      go_enter Try.func14, Try.ntmps14
      go_wp2_with (fail)
      refine (CA.out _ HRA.out).mono ?_
      rintro e w1 ⟨rfl, k1⟩
      have HB1 := hidIt k1
      clear k1
      go_wp2_with (fail)
      refine (CB.out _ (HRB.out.kept HB1.out)).mono ?_
      rintro e w2 ⟨rfl, k2⟩
      have HB2 := hidIt (HB1.out.trans (k2.mono HB1.out.size))
      clear k2
      go_wp2_with (fail)
      go_ret
      first | exact ⟨_, [], rfl, rfl, (Own.new w2).mono HB2.out.size, HB2.out.alloc HB2.out.size _⟩ | exact ⟨_, rfl, [], rfl, (Own.new w2).mono HB2.out.size, HB2.out.alloc HB2.out.size _⟩
    | true =>
      rw [okB] at CB
      have l1 := Mk.ok_len okA
      have l2 := Mk.ok_len okB
      rw [toB_length] at l1 l2
      have CJ := hidIt (fun W (r1 : Rd W aA A) (r2 : Rd W aB B) => spec_l12Merge aA aB cA cB A B W r1 r2 hnA (Mk.ok_ris okA) (Mk.ok_ris okB) (by omega))
      have HJ := hidIt (fun J (h : IsJoin (toB A) (toB B) J) => Mk.merge_of okA okB h)
      clear okA okB
      generalize mergeB (toB A) (toB B) = r at HJ ⊢
      generalize A.length = la at *
      generalize B.length = lb at *
      go_enter Try.func14, Try.ntmps14
      go_wp2_with (fail)
      refine (CA.out _ HRA.out).mono ?_
      rintro e w1 ⟨rfl, k1⟩
      have HB1 := hidIt k1
      clear k1
      go_wp2_with (fail)
      refine (CB.out _ (HRB.out.kept HB1.out)).mono ?_
      rintro e w2 ⟨rfl, k2⟩
      have HB2 := hidIt (HB1.out.trans (k2.mono HB1.out.size))
      clear k2
      go_wp2_with (fail)
      refine (CJ.out _ (HRA.out.kept HB2.out) (HRB.out.kept HB2.out)).mono ?_
      rintro e w3 ⟨v, J, rfl, hv, o3, hj, hlj, k3⟩
      have HB3 := hidIt (HB2.out.trans (k3.mono HB2.out.size))
      have HO3 := hidIt (o3.mono HB2.out.size)
      have HR := hidIt (HJ.out _ hj).symm
      clear k3 o3 hj hv
      go_wp2_with (fail)
      go_ret
      first | exact ⟨_, J, rfl, HR.out, HO3.out, HB3.out⟩ | exact ⟨_, rfl, J, HR.out, HO3.out, HB3.out⟩
end Go.Proofs.Ytlcbapijpdlolaa.Mm
