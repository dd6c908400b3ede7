/-
  The heap's Push, Pop and Fix, and the program's next, restsOf.
-/
import Derived.Test.YtllajhieocploaaHepJ
namespace Go.Proofs.Ytllajhieocploaa.En
open Go.ChangeShapes Go.WideShapes Go.ChangeAt Go.RowKit
open Go.Proofs.Ytllajhieocploaa.Bk (Bytes okE newB okBk Ris IsJoin joinB lessE)
set_option linter.unusedVariables false
attribute [local go_sem] m_Len m_Less m_Swap m_Push m_Pop as_book
set_option maxRecDepth 100000 in
set_option maxHeartbeats 4000000 in
theorem heap_Push0 {w : World} {base b p o n c : Nat} (h : Rs w base b []) (hbs : base ≤ w.heap.size) :
    Calls Try.prog 98 #[hI b, .iface 33 (sv p o n c)] w fun e w' => e = .returned (.tuple #[]) ∧ Rs w' base b [sv p o n c] ∧ Below base w w' := by
  have CP := hidIt (rests_Push (p := p) (o := o) (n := n) (c := c) h (by simp) hbs)
  have CL := hidIt (fun a n c W => rests_Len a n c W)
  have CU := hidIt (fun W => up_none b W)
  clear h
  go_enter Try.func98, Try.ntmps98
  go_wp2_with (fail)
  refine CP.out.mono ?_
  rintro e w1 ⟨rfl, r1, k1⟩
  obtain ⟨g, cap, hg, hcm, hp⟩ := r1.hp (by simp)
  have me := hp.me
  have HR1 := hidIt r1
  have HK1 := hidIt k1
  clear r1 k1 hp hcm
  simp only [List.length_nil, Nat.zero_add] at me
  go_wp2_with (fail)
  refine (CL.out _ _ _ _).mono ?_
  rintro e w2 ⟨rfl, rfl⟩
  go_wp2_with (fail)
  refine (CU.out _).mono ?_
  rintro e w3 ⟨rfl, rfl⟩
  go_wp2_with (fail)
  exact bodyPost_end (v := .tuple #[]) (by simp [results, Try.results98, go_sem]) rfl ⟨rfl, HR1.out, HK1.out⟩
set_option maxRecDepth 100000 in
set_option maxHeartbeats 4000000 in
theorem heap_Push1 {w : World} {base b p0 o0 n0 k0 p1 o1 n1 k1 : Nat} {L0 L1 : List Rw} (h : Rs w base b [sv p0 o0 n0 k0]) (hbs : base ≤ w.heap.size) (h0 : Rd w (some ⟨p0, o0, none⟩) L0) (h1 : Rd w (some ⟨p1, o1, none⟩) L1) (e0 : L0.length = n0) (e1 : L1.length = n1) (z0 : 0 < n0) (z1 : 0 < n1) (q0 : p0 < base) (q1 : p1 < base) :
    Calls Try.prog 98 #[hI b, .iface 33 (sv p1 o1 n1 k1)] w fun e w' => e = .returned (.tuple #[]) ∧ (∃ g cap, base ≤ g ∧ cap ≤ maxLen ∧ Two w' b g cap (lessE (toE (rat L1 0)) (toE (rat L0 0))) (sv p0 o0 n0 k0) (sv p1 o1 n1 k1)) ∧ Below base w w' := by
  have CP := hidIt (rests_Push (p := p1) (o := o1) (n := n1) (c := k1) h (by simp) hbs)
  have CL := hidIt (fun a n c W => rests_Len a n c W)
  have HB := hidIt h.le
  have H0 := hidIt (fun W (k : Below base w W) => h0.kept' k q0)
  have H1 := hidIt (fun W (k : Below base w W) => h1.kept' k q1)
  have CU := hidIt (fun W g cap (h : Hp W b g cap 2 (sv p0 o0 n0 k0) (sv p1 o1 n1 k1)) h0 h1 => up_one (L0 := L0) (L1 := L1) h h0 h1 e0 e1 z0 z1)
  clear h h0 h1 e0 e1 z0 z1
  generalize lessE (toE (rat L1 0)) (toE (rat L0 0)) = r at CU ⊢
  go_enter Try.func98, Try.ntmps98
  go_wp2_with (fail)
  refine CP.out.mono ?_
  rintro e w1 ⟨rfl, r1, kk1⟩
  obtain ⟨g, cap, hg, hcm, hp⟩ := r1.hp (by simp)
  have HP : Hid (Hp w1 b g cap 2 (sv p0 o0 n0 k0) (sv p1 o1 n1 k1)) := hidIt hp
  have me := HP.out.me
  have HK1 := hidIt kk1
  have HG := hidIt (And.intro hg hcm)
  clear r1 kk1 hp hcm hg
  go_wp2_with (fail)
  refine (CL.out _ _ _ _).mono ?_
  rintro e w2 ⟨rfl, rfl⟩
  go_wp2_with (fail)
  refine (CU.out _ _ _ HP.out (H0.out _ HK1.out) (H1.out _ HK1.out)).mono ?_
  rintro e w3 ⟨rfl, t3, f3⟩
  have HT := hidIt t3
  have HK3 := hidIt (HK1.out.trans (f3.below HB.out HG.out.1 (Nat.le_trans hbs HK1.out.size)))
  clear t3 f3
  go_wp2_with (fail)
  exact bodyPost_end (v := .tuple #[]) (by simp [results, Try.results98, go_sem]) rfl ⟨rfl, ⟨g, cap, HG.out.1, HG.out.2, HT.out⟩, HK3.out⟩
set_option maxRecDepth 100000 in
set_option maxHeartbeats 4000000 in
theorem heap_Pop1 {w : World} {b g cap p0 o0 n0 k0 : Nat} {v1 : Value} (h : Hp w b g cap 1 (sv p0 o0 n0 k0) v1) (hc : cap ≤ maxLen) :
    Calls Try.prog 114 #[hI b] w fun e w' => (∃ v, e = .returned v) ∧ Hp w' b g cap 0 (sv p0 o0 n0 k0) v1 ∧ Fr b g w w' := by
  have CL := hidIt (fun a n c W => rests_Len a n c W)
  have CS := hidIt (fun W (h : Hp W b g cap 1 (sv p0 o0 n0 k0) v1) => rests_Swap00 h)
  have CD := hidIt (fun W => down_none b 0 W (by omega))
  have CP := hidIt (fun W (h : Hp W b g cap 1 (sv p0 o0 n0 k0) v1) => rests_Pop (n := 0) h (by omega) hc)
  have me := h.me
  have HH := hidIt h
  clear h
  go_enter Try.func114, Try.ntmps114
  go_wp2_with (fail)
  refine (CL.out _ _ _ _).mono ?_
  rintro e w2 ⟨rfl, rfl⟩
  go_wp2_with (fail)
  refine (CS.out _ HH.out).mono ?_
  rintro e w3 ⟨rfl, h3, f3⟩
  have HH3 := hidIt h3
  have HF3 := hidIt f3
  have me3 := h3.me
  clear h3 f3
  go_wp2_with (fail)
  refine (CD.out _).mono ?_
  rintro e w4 ⟨rfl, rfl⟩
  go_wp2_with (fail)
  refine (CP.out _ HH3.out).mono ?_
  rintro e w5 ⟨⟨v, rfl⟩, h5, f5⟩
  have HH5 := hidIt h5
  have HF5 := hidIt (HF3.out.trans f5)
  clear h5 f5
  go_wp2_with (fail)
  go_ret
  exact ⟨⟨_, rfl⟩, HH5.out, HF5.out⟩
set_option maxRecDepth 100000 in
set_option maxHeartbeats 4000000 in
theorem heap_Pop2 {w : World} {b g cap p0 o0 n0 k0 p1 o1 n1 k1 : Nat} (h : Hp w b g cap 2 (sv p0 o0 n0 k0) (sv p1 o1 n1 k1)) (hc : cap ≤ maxLen) :
    Calls Try.prog 114 #[hI b] w fun e w' => (∃ v, e = .returned v) ∧ Hp w' b g cap 1 (sv p1 o1 n1 k1) (sv p0 o0 n0 k0) ∧ Fr b g w w' := by
  have CL := hidIt (fun a n c W => rests_Len a n c W)
  have CS := hidIt (rests_Swap01 h)
  have CD := hidIt (fun W => down_none b 1 W (by omega))
  have CP := hidIt (fun W (h : Hp W b g cap 2 (sv p1 o1 n1 k1) (sv p0 o0 n0 k0)) => rests_Pop (n := 1) h (by omega) hc)
  have me := h.me
  clear h
  go_enter Try.func114, Try.ntmps114
  go_wp2_with (fail)
  refine (CL.out _ _ _ _).mono ?_
  rintro e w2 ⟨rfl, rfl⟩
  go_wp2_with (fail)
  refine CS.out.mono ?_
  rintro e w3 ⟨rfl, h3, f3⟩
  have HH3 := hidIt h3
  have HF3 := hidIt f3
  have me3 := h3.me
  clear h3 f3
  go_wp2_with (fail)
  refine (CD.out _).mono ?_
  rintro e w4 ⟨rfl, rfl⟩
  go_wp2_with (fail)
  refine (CP.out _ HH3.out).mono ?_
  rintro e w5 ⟨⟨v, rfl⟩, h5, f5⟩
  have HH5 := hidIt h5
  have HF5 := hidIt (HF3.out.trans f5)
  clear h5 f5
  go_wp2_with (fail)
  go_ret
  exact ⟨⟨_, rfl⟩, HH5.out, HF5.out⟩
set_option maxRecDepth 100000 in
set_option maxHeartbeats 4000000 in
theorem heap_Fix1 {w : World} {b g cap : Nat} {v0 v1 : Value} (h : Hp w b g cap 1 v0 v1) :
    Calls Try.prog 115 #[hI b, .int .i64 0] w fun e w' => e = .returned (.tuple #[]) ∧ w' = w := by
  have CL := hidIt (fun a n c W => rests_Len a n c W)
  have CD := hidIt (fun W => down_none b 1 W (by omega))
  have CU := hidIt (fun W => up_none b W)
  have me := h.me
  clear h
  go_enter Try.func115, Try.ntmps115
  go_wp2_with (fail)
  refine (CL.out _ _ _ _).mono ?_
  rintro e w2 ⟨rfl, rfl⟩
  go_wp2_with (fail)
  refine (CD.out _).mono ?_
  rintro e w4 ⟨rfl, rfl⟩
  go_wp2_with (fail)
  refine (CU.out _).mono ?_
  rintro e w5 ⟨rfl, rfl⟩
  go_wp2_with (fail)
  exact bodyPost_end (v := .tuple #[]) (by simp [results, Try.results115, go_sem]) rfl ⟨rfl, rfl⟩
set_option maxRecDepth 100000 in
set_option maxHeartbeats 4000000 in
theorem heap_Fix2 {w : World} {b g cap p0 o0 n0 k0 p1 o1 n1 k1 : Nat} {L0 L1 : List Rw} (h : Hp w b g cap 2 (sv p0 o0 n0 k0) (sv p1 o1 n1 k1)) (h0 : Rd w (some ⟨p0, o0, none⟩) L0) (h1 : Rd w (some ⟨p1, o1, none⟩) L1) (e0 : L0.length = n0) (e1 : L1.length = n1) (z0 : 0 < n0) (z1 : 0 < n1) :
    Calls Try.prog 115 #[hI b, .int .i64 0] w fun e w' => e = .returned (.tuple #[]) ∧ Two w' b g cap (lessE (toE (rat L1 0)) (toE (rat L0 0))) (sv p0 o0 n0 k0) (sv p1 o1 n1 k1) ∧ Fr b g w w' := by
  have CL := hidIt (fun a n c W => rests_Len a n c W)
  have CD := hidIt (down_two h h0 h1 e0 e1 z0 z1)
  have CU := hidIt (fun W => up_none b W)
  have me := h.me
  clear h h0 h1 e0 e1 z0 z1
  generalize lessE (toE (rat L1 0)) (toE (rat L0 0)) = r at CD ⊢
  cases r with
  | false =>
    go_enter Try.func115, Try.ntmps115
    go_wp2_with (fail)
    refine (CL.out _ _ _ _).mono ?_
    rintro e w2 ⟨rfl, rfl⟩
    go_wp2_with (fail)
    refine CD.out.mono ?_
    rintro e w4 ⟨rfl, t4, f4⟩
    have HT := hidIt t4
    have HF := hidIt f4
    clear t4 f4
    go_wp2_with (fail)
    refine (CU.out _).mono ?_
    rintro e w5 ⟨rfl, rfl⟩
    go_wp2_with (fail)
    exact bodyPost_end (v := .tuple #[]) (by simp [results, Try.results115, go_sem]) rfl ⟨rfl, HT.out, HF.out⟩
  | true =>
    go_enter Try.func115, Try.ntmps115
    go_wp2_with (fail)
    refine (CL.out _ _ _ _).mono ?_
    rintro e w2 ⟨rfl, rfl⟩
    go_wp2_with (fail)
    refine CD.out.mono ?_
    rintro e w4 ⟨rfl, t4, f4⟩
    have HT := hidIt t4
    have HF := hidIt f4
    clear t4 f4
    go_wp2_with (fail)
    exact bodyPost_end (v := .tuple #[]) (by simp [results, Try.results115, go_sem]) rfl ⟨rfl, HT.out, HF.out⟩
end Go.Proofs.Ytllajhieocploaa.En
