/-
  The methods of the program's rests.
-/
import Derived.Test.YtllajhieocploaaHepM
import Derived.Deep.RegionWith
import Derived.WideLaws
namespace Go.Proofs.Ytllajhieocploaa.En
open Go.ChangeShapes Go.WideShapes Go.ChangeAt Go.RowKit
open Go.Proofs.Ytllajhieocploaa.Bk (Bytes okE newB okBk Ris IsJoin joinB lessE)
set_option linter.unusedVariables false
attribute [local go_sem] str_gtr str_leq str_geq
theorem m_Len {b : Nat} {v : Value} {w : World} (h : w.cell? ⟨b, 0, none⟩ = some v) : (Go.method 276 108 (.pointer (some ⟨b, 0, none⟩)) "Len").run Try.prog w = .ok (96, v) w := by
  have e : (Go.method 276 108 (.pointer (some ⟨b, 0, none⟩)) "Len").run Try.prog w = (loadVar 128 ⟨b, 0, none⟩ >>= fun v => pure (96, v)).run Try.prog w := by kernel_rfl
  rw [e]
  simp [go_sem, h]
theorem m_Less {b : Nat} {v : Value} {w : World} (h : w.cell? ⟨b, 0, none⟩ = some v) : (Go.method 276 108 (.pointer (some ⟨b, 0, none⟩)) "Less").run Try.prog w = .ok (145, v) w := by
  have e : (Go.method 276 108 (.pointer (some ⟨b, 0, none⟩)) "Less").run Try.prog w = (loadVar 128 ⟨b, 0, none⟩ >>= fun v => pure (145, v)).run Try.prog w := by kernel_rfl
  rw [e]
  simp [go_sem, h]
theorem m_Swap {b : Nat} {v : Value} {w : World} (h : w.cell? ⟨b, 0, none⟩ = some v) : (Go.method 276 108 (.pointer (some ⟨b, 0, none⟩)) "Swap").run Try.prog w = .ok (148, v) w := by
  have e : (Go.method 276 108 (.pointer (some ⟨b, 0, none⟩)) "Swap").run Try.prog w = (loadVar 128 ⟨b, 0, none⟩ >>= fun v => pure (148, v)).run Try.prog w := by kernel_rfl
  rw [e]
  simp [go_sem, h]
theorem m_Push {p : Value} {w : World} : (Go.method 276 108 p "Push").run Try.prog w = .ok (147, p) w := by kernel_rfl
theorem m_Pop {p : Value} {w : World} : (Go.method 276 108 p "Pop").run Try.prog w = .ok (146, p) w := by kernel_rfl
theorem as_book (v : Value) (w : World) : (Instr.typeAssert (.iface 33 v) 20 33 false).run Try.prog w = .ok v w := by kernel_rfl
attribute [local go_sem] as_book
set_option maxRecDepth 100000 in
set_option maxHeartbeats 2000000 in
theorem rests_Len (a : Option Addr) (n cap : Nat) (w : World) : Calls Try.prog 96 #[.slice a n cap] w fun e w' => e = .returned (.int .i64 (n : Int)) ∧ w' = w := by
  go_enter Try.func96, Try.ntmps96
  go_wp2
  go_ret
  exact ⟨rfl, rfl⟩
set_option maxRecDepth 100000 in
set_option maxHeartbeats 4000000 in
theorem rests_Pop {w : World} {b g cap n : Nat} {v0 v1 : Value} (h : Hp w b g cap (n + 1) v0 v1) (hn : n ≤ 1) (hc : cap ≤ 9223372036854775807) :
    Calls Try.prog 146 #[.pointer (some ⟨b, 0, none⟩)] w fun e w' => (∃ v, e = .returned v) ∧ Hp w' b g cap n v0 v1 ∧ Fr b g w w' := by
  have HH := hidIt h
  have c0 := h.me
  have f0 := h.mf
  have le := h.le
  have HC := hidIt (h.cut (m := n) (by omega))
  have HF := hidIt ((Fr.refl b g w).setB 0 (.slice (some ⟨g, 0, none⟩) n cap))
  have cc := h.row n (by omega)
  generalize (if n = 0 then v0 else v1) = vn at cc
  clear h
  have hn1 : (n : Int) ≤ 1 := by omega
  go_enter Try.func146, Try.ntmps146
  go_wp2_with (fail)
  go_ret
  exact ⟨⟨_, rfl⟩, HC.out, HF.out⟩
/-- A slice that is there. -/
abbrev sv (p o n c : Nat) : Value := .slice (some ⟨p, o, none⟩) n c
set_option maxRecDepth 100000 in
set_option maxHeartbeats 4000000 in
theorem rests_Swap00 {w : World} {b g cap p0 o0 n0 k0 : Nat} {v1 : Value} (h : Hp w b g cap 1 (sv p0 o0 n0 k0) v1) :
    Calls Try.prog 148 #[.slice (some ⟨g, 0, none⟩) 1 cap, .int .i64 0, .int .i64 0] w fun e w' => e = .returned (.tuple #[]) ∧ Hp w' b g cap 1 (sv p0 o0 n0 k0) v1 ∧ Fr b g w w' := by
  have c0 := h.c0 (by omega)
  have f0 := h.rf 0
  have HH := hidIt h
  clear h
  go_enter Try.func148, Try.ntmps148
  go_wp2_with (fail)
  go_big_region
  exact bodyPost_end (v := .tuple #[]) (by simp [results, Try.results148, go_sem]) rfl ⟨rfl, ((HH.out.put0 (by omega) (sv p0 o0 n0 k0)).put0 (by omega) (sv p0 o0 n0 k0)).drew, (((Fr.refl b g w).setG 0 (sv p0 o0 n0 k0)).setG 0 (sv p0 o0 n0 k0)).drew⟩
set_option maxRecDepth 100000 in
set_option maxHeartbeats 4000000 in
theorem rests_Swap01 {w : World} {b g cap p0 o0 n0 k0 p1 o1 n1 k1 : Nat} (h : Hp w b g cap 2 (sv p0 o0 n0 k0) (sv p1 o1 n1 k1)) :
    Calls Try.prog 148 #[.slice (some ⟨g, 0, none⟩) 2 cap, .int .i64 0, .int .i64 1] w fun e w' => e = .returned (.tuple #[]) ∧ Hp w' b g cap 2 (sv p1 o1 n1 k1) (sv p0 o0 n0 k0) ∧ Fr b g w w' := by
  have c0 := h.c0 (by omega)
  have c1 := h.c1 (by omega)
  have f0 := h.rf 0
  have f1 := h.rf 1
  have HH := hidIt h
  clear h
  go_enter Try.func148, Try.ntmps148
  go_wp2_with (fail)
  go_big_region
  exact bodyPost_end (v := .tuple #[]) (by simp [results, Try.results148, go_sem]) rfl ⟨rfl, ((HH.out.put0 (by omega) (sv p1 o1 n1 k1)).put1 (sv p0 o0 n0 k0)).drew, (((Fr.refl b g w).setG 0 (sv p1 o1 n1 k1)).setG 1 (sv p0 o0 n0 k0)).drew⟩
theorem cells_one {w : World} {p o : Nat} {L : List Rw} (h : Rd w (some ⟨p, o, none⟩) L) (hl : 0 < L.length) : w.cell? ⟨p, o, none⟩ = some (.string (rat L 0).1) ∧ w.cell? ⟨p, o + 1, none⟩ = some (.string (rat L 0).2.1) ∧ w.cell? ⟨p, o + 2, none⟩ = some (.int .i64 (rat L 0).2.2.1) ∧ w.cell? ⟨p, o + 3, none⟩ = some (.int .i64 (rat L 0).2.2.2.1) ∧ w.cell? ⟨p, o + 4, none⟩ = some (.bool (rat L 0).2.2.2.2) := by
  obtain ⟨b', off, e, h⟩ := h.all hl
  cases e
  simpa using h
set_option maxRecDepth 100000 in
set_option maxHeartbeats 8000000 in
theorem rests_Less {w : World} {b g cap p0 o0 n0 k0 p1 o1 n1 k1 : Nat} {L0 L1 : List Rw} (h : Hp w b g cap 2 (sv p0 o0 n0 k0) (sv p1 o1 n1 k1)) (h0 : Rd w (some ⟨p0, o0, none⟩) L0) (h1 : Rd w (some ⟨p1, o1, none⟩) L1) (e0 : L0.length = n0) (e1 : L1.length = n1) (z0 : 0 < n0) (z1 : 0 < n1) :
    Calls Try.prog 145 #[.slice (some ⟨g, 0, none⟩) 2 cap, .int .i64 1, .int .i64 0] w fun e w' => e = .returned (.bool (lessE (toE (rat L1 0)) (toE (rat L0 0)))) ∧ Below w.heap.size w w' := by
  have r0 := h.c0 (by omega)
  have r1 := h.c1 (by omega)
  obtain ⟨c0, c1, c2, c3, c4⟩ := cells_one h0 (by omega)
  obtain ⟨d0, d1, d2, d3, d4⟩ := cells_one h1 (by omega)
  have CN := hidIt (fun W => impl_Newer (rat L1 0) (rat L0 0) W)
  have l0 := h.gl
  have l1 := cell_block c0
  have l2 := cell_block d0
  clear h h0 h1 e0 e1
  generalize rat L0 0 = x at c0 c1 c2 c3 c4 CN ⊢
  generalize rat L1 0 = y at d0 d1 d2 d3 d4 CN ⊢
  obtain ⟨xk, xv, xt, xn, xg⟩ := x
  obtain ⟨yk, yv, yt, yn, yg⟩ := y
  simp only [rv] at CN c0 c1 c2 c3 c4 d0 d1 d2 d3 d4
  have z0' : (0 : Int) < (n0 : Int) := by omega
  have z1' : (0 : Int) < (n1 : Int) := by omega
  have hl := less_of yk xk
  have he := eq_of yk xk
  have HW1 := hidIt (Below.drew (((Below.refl w.heap.size w).alloc (Nat.le_refl _) (.cells #[.string yk, .string yv, .int .i64 yt, .int .i64 yn, .bool yg] 87)).alloc (by simp) (.cells #[.string xk, .string xv, .int .i64 xt, .int .i64 xn, .bool xg] 87)))
  have HW2 := hidIt (Below.drew (((Below.refl w.heap.size w).alloc (Nat.le_refl _) (.cells #[.string xk, .string xv, .int .i64 xt, .int .i64 xn, .bool xg] 87)).alloc (by simp) (.cells #[.string yk, .string yv, .int .i64 yt, .int .i64 yn, .bool yg] 87)))
  by_cases hlt : bs yk < bs xk
  · rw [decide_eq_true hlt] at hl
    have er : lessE (toE (yk, yv, yt, yn, yg)) (toE (xk, xv, xt, xn, xg)) = true := Bk.lessE_lt hlt
    rw [er]
    clear he hlt er
    go_enter Try.func145, Try.ntmps145
    go_wp2_with (fail)
    go_big_region
    all_goals (go_wp2_with (fail); go_ret; first | exact ⟨rfl, HW1.out⟩ | exact ⟨rfl, HW2.out⟩)
  · rw [decide_eq_false hlt] at hl
    by_cases heq : bs yk = bs xk
    · rw [decide_eq_true heq] at he
      have er : lessE (toE (yk, yv, yt, yn, yg)) (toE (xk, xv, xt, xn, xg)) = newB (toE (yk, yv, yt, yn, yg)) (toE (xk, xv, xt, xn, xg)) := Bk.lessE_eq hlt heq
      rw [er]
      generalize newB (toE (yk, yv, yt, yn, yg)) (toE (xk, xv, xt, xn, xg)) = r at CN ⊢
      clear heq hlt er
      go_enter Try.func145, Try.ntmps145
      go_wp2_with (fail)
      go_big_region
      all_goals (go_wp2_with (fail); refine (CN.out _).mono ?_; rintro e w1 ⟨rfl, k1⟩; have HK := hidIt k1; clear k1; go_wp2_with (fail); go_ret; first | exact ⟨rfl, HW1.out.trans (HK.out.mono HW1.out.size)⟩ | exact ⟨rfl, HW2.out.trans (HK.out.mono HW2.out.size)⟩)
    · rw [decide_eq_false heq] at he
      have er : lessE (toE (yk, yv, yt, yn, yg)) (toE (xk, xv, xt, xn, xg)) = false := Bk.lessE_gt hlt heq
      rw [er]
      clear heq hlt er
      go_enter Try.func145, Try.ntmps145
      go_wp2_with (fail)
      go_big_region
      all_goals (go_wp2_with (fail); go_ret; first | exact ⟨rfl, HW1.out⟩ | exact ⟨rfl, HW2.out⟩)
end Go.Proofs.Ytllajhieocploaa.En
