/-
  Complete of the specification and of the program: a Cluster that is right has logs alone. (Written by wip/mkCml.py.)
-/
import Derived.Test.YtceddedlfdgbhaaGreatDoorBun18
import Derived.Test.YtceddedlfdgbhaaGreatDoorLogK
namespace Go.Proofs.YtceddedlfdgbhaaGreatDoor.Kc
open Go.ChangeShapes Go.WideShapes Go.ChangeAt Go.RowKit
open Go.Proofs.YtceddedlfdgbhaaGreatDoor.Vv (Sl sv hidIt)
open Go.Proofs.YtceddedlfdgbhaaGreatDoor.Nd (Nw RdN OwnN ShortN SmallN)
open Go.Proofs.YtceddedlfdgbhaaGreatDoor.Ns (nod)
set_option linter.unusedVariables false
theorem okK_log {c : Cw} (h : okK c = true) {i : Nat} (hi : i < c.nodes.length) : Lg.okL (nod c.nodes i).log = true := by
  have h1 := (okK_out h).2.2.2.2.1 i hi
  unfold eachB Nd.okN at h1
  simp only [Bool.and_eq_true] at h1
  exact h1.1.2.2.2.2.1
set_option maxRecDepth 100000 in
set_option maxHeartbeats 16000000 in
theorem impl_Complete (c : Cw) (n k : Sl) (w : World) (h : RdK w c n k) (hs : ShortK c) (ht : Sg.Tab w) : Calls Tryz.prog 7 #[kv c n k] w fun en w' => en = .returned (.bool (okK c)) ∧ Below w.heap.size w w' := by
  have C := hidIt (fun W (kb : Below w.heap.size w W) => impl_ClusterOk c n k W (h.kept kb) hs (ht.kept kb))
  generalize okK c = res at C ⊢
  obtain ⟨no, ns, ck⟩ := c
  obtain ⟨n0, n1, n2⟩ := n
  obtain ⟨k0, k1, k2⟩ := k
  obtain ⟨z1, rN, cN, z2, rK, cK⟩ := h
  simp only at z1 rN cN z2 rK cK
  subst z1 z2
  clear rN rK hs ht
  simp only [kv, kc, sv] at C ⊢
  generalize ns.length = m at *
  generalize ck.length = m2 at *
  have BX : Hid (Bo.Box (w.alloc (.cells #[.int .i64 no, .slice n0 m n2, .slice k0 m2 k2] 30)) w.heap.size #[.int .i64 no, .slice n0 m n2, .slice k0 m2 k2]) := hidIt (Bo.Box.new w _ _)
  have HB : Hid (Below w.heap.size w (w.alloc (.cells #[.int .i64 no, .slice n0 m n2, .slice k0 m2 k2] 30))) := hidIt ((Below.refl w.heap.size w).alloc (Nat.le_refl _) _)
  have d0 := BX.out.c 0 (v := .int .i64 no) rfl
  have d1 := BX.out.c 1 (v := .slice n0 m n2) rfl
  have d2 := BX.out.c 2 (v := .slice k0 m2 k2) rfl
  go_enter Tryz.func7, Tryz.ntmps7
  go_wp2_with (fail)
  refine (C.out _ HB.out).mono ?_
  rintro en w1 ⟨rfl, kk⟩
  replace HB := hidIt (on HB.out kk)
  clear kk d0 d1 d2
  go_wp2_with (fail)
  go_ret
  exact ⟨rfl, HB.out⟩
set_option maxRecDepth 100000 in
set_option maxHeartbeats 16000000 in
theorem spec_Complete (c : Cw) (n k : Sl) (w : World) (h : RdK w c n k) (hs : ShortK c) : Calls Tryz.prog 5 #[kv c n k] w fun en w' => en = .returned (.bool (okK c)) ∧ Below w.heap.size w w' := by
  have C := hidIt (fun W (kb : Below w.heap.size w W) => spec_ClusterOk c n k W (h.kept kb) hs)
  have NL : Hid (okK c = true → ∀ i, i < c.nodes.length → Lg.okL (nod c.nodes i).log = true) := hidIt (fun z i hi => okK_log z hi)
  have N4 : Hid (okK c = true → c.nodes.length ≤ 4) := hidIt (fun z => (okK_out z).2.2.1)
  generalize okK c = res at C NL N4 ⊢
  obtain ⟨no, ns, ck⟩ := c
  obtain ⟨n0, n1, n2⟩ := n
  obtain ⟨k0, k1, k2⟩ := k
  obtain ⟨z1, rN, cN, z2, rK, cK⟩ := h
  simp only at z1 rN cN z2 rK cK
  subst z1 z2
  have RN := hidIt rN
  clear rN rK hs
  simp only [kv, kc, sv] at C NL N4 ⊢
  generalize hm : ns.length = m at *
  have HN := hidIt hm
  clear hm
  generalize ck.length = m2 at *
  have BX : Hid (Bo.Box (w.alloc (.cells #[.int .i64 no, .slice n0 m n2, .slice k0 m2 k2] 30)) w.heap.size #[.int .i64 no, .slice n0 m n2, .slice k0 m2 k2]) := hidIt (Bo.Box.new w _ _)
  have HB : Hid (Below w.heap.size w (w.alloc (.cells #[.int .i64 no, .slice n0 m n2, .slice k0 m2 k2] 30))) := hidIt ((Below.refl w.heap.size w).alloc (Nat.le_refl _) _)
  have d0 := BX.out.c 0 (v := .int .i64 no) rfl
  have d1 := BX.out.c 1 (v := .slice n0 m n2) rfl
  have d2 := BX.out.c 2 (v := .slice k0 m2 k2) rfl
  cases res with
  | false =>
    go_enter Tryz.func5, Tryz.ntmps5
    go_wp2_with (fail)
    refine (C.out _ HB.out).mono ?_
    rintro en w1 ⟨rfl, kk⟩
    replace HB := hidIt (on HB.out kk)
    clear kk d0 d1 d2
    go_wp2_with (fail)
    go_ret
    exact ⟨rfl, HB.out⟩
  | true =>
  have nl := hidIt (NL.out rfl)
  have h4 := N4.out rfl
  clear NL N4
  go_enter Tryz.func5, Tryz.ntmps5
  go_wp2_with (fail)
  refine (C.out _ HB.out).mono ?_
  rintro en w1 ⟨rfl, kk⟩
  replace HB := hidIt (on HB.out kk)
  replace BX := hidIt (BX.out.kept kk)
  clear kk d0 d1 d2 C
  go_wp2_with (fail)
  go_loopw [3] (fun y wx => ∃ (i : Nat), y = .int .i64 i ∧ i ≤ m ∧ Hid (Below w1.heap.size w1 wx)) (fun y _ => (m - intOf y).toNat)
  case atStart => exact ⟨0, rfl, by omega, hidIt (Below.refl _ _)⟩
  case round =>
    obtain ⟨i, rfl, hi, HBx⟩ := hrel
    have d1 := (BX.out.kept HBx.out).c 1 (v := .slice n0 m n2) rfl
    have HBw := hidIt (on HB.out HBx.out)
    by_cases hin : i < m
    · have hin' : (i : Int) < (m : Int) := by omega
      have hi0' : (0 : Int) ≤ (i : Int) := by omega
      obtain ⟨q, off, e, mm', b, g, eq, c0, c1, c2, c3, c4, c5, c6, c7, c8, c9, rN⟩ := (RN.out.kept HBw.out).one (i := i) (by rw [HN.out]; exact hin)
      subst eq
      have hok := nl.out i hin
      obtain ⟨g0, g1, g2⟩ := g
      have rg := rN.g
      obtain ⟨zg, rg1, rg2, rg3⟩ := rg
      simp only at zg rg1 rg2 rg3
      have CL := hidIt (Lg.spec_LogOk g0 g2 (nod ns i).log wr rg1)
      rw [hok, ← zg] at CL
      simp only [sv] at c8
      clear c0 c1 c2 c3 c4 c5 c6 c7 c9 rN hok zg rg1 rg2 rg3
      go_wp2_with (fail)
      refine CL.out.mono ?_
      rintro en w2 ⟨rfl, kk⟩
      have HB2 := hidIt (on HBx.out kk)
      clear kk c8 d1
      go_wp2_with (fail)
      exact ⟨⟨i + 1, by simp, by omega, HB2⟩, by simp [intOf]; omega⟩
    · have hin' : ¬ (i : Int) < (m : Int) := by omega
      go_wp2_with (fail)
      go_ret
      exact ⟨rfl, HBw.out⟩
end Go.Proofs.YtceddedlfdgbhaaGreatDoor.Kc
