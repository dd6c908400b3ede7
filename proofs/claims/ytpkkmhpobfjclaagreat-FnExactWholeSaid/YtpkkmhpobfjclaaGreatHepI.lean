/- The methods of the program's rests. -/
import Derived.Test.YtpkkmhpobfjclaaGreatHepM
import Derived.Deep.RegionWith
import Derived.WideLaws
set_option maxRecDepth 100000
set_option maxHeartbeats 32000000
set_option linter.unusedVariables false
namespace Go.Proofs.YtpkkmhpobfjclaaGreat.En
open Go.ChangeShapes Go.WideShapes Go.ChangeAt Go.RowKit
open Bk (Bytes okE newB okBk Ris IsJoin joinB lessE)
attribute [local go_sem] str_gtr str_leq str_geq
theorem m_Len {b : Nat} {v : Value} {w : World} (h : w.cell? ⟨b, 0, none⟩ = some v) : (Go.method 257 93 (.pointer (some ⟨b, 0, none⟩)) "Len").run Tryz.prog w = .ok (81, v) w := by
 have e : (Go.method 257 93 (.pointer (some ⟨b, 0, none⟩)) "Len").run Tryz.prog w = (loadVar 120 ⟨b, 0, none⟩ >>= fun v => pure (81, v)).run Tryz.prog w := by kernel_rfl
 rw [e]
 simp [go_sem,h]
theorem m_Less {b : Nat} {v : Value} {w : World} (h : w.cell? ⟨b, 0, none⟩ = some v) : (Go.method 257 93 (.pointer (some ⟨b, 0, none⟩)) "Less").run Tryz.prog w = .ok (122, v) w := by
 have e : (Go.method 257 93 (.pointer (some ⟨b, 0, none⟩)) "Less").run Tryz.prog w = (loadVar 120 ⟨b, 0, none⟩ >>= fun v => pure (122, v)).run Tryz.prog w := by kernel_rfl
 rw [e]
 simp [go_sem,h]
theorem m_Swap {b : Nat} {v : Value} {w : World} (h : w.cell? ⟨b, 0, none⟩ = some v) : (Go.method 257 93 (.pointer (some ⟨b, 0, none⟩)) "Swap").run Tryz.prog w = .ok (125, v) w := by
 have e : (Go.method 257 93 (.pointer (some ⟨b, 0, none⟩)) "Swap").run Tryz.prog w = (loadVar 120 ⟨b, 0, none⟩ >>= fun v => pure (125, v)).run Tryz.prog w := by kernel_rfl
 rw [e]
 simp [go_sem,h]
theorem m_Push {p : Value} {w : World} : (Go.method 257 93 p "Push").run Tryz.prog w = .ok (124, p) w := by kernel_rfl
theorem m_Pop {p : Value} {w : World} : (Go.method 257 93 p "Pop").run Tryz.prog w = .ok (123, p) w := by kernel_rfl
theorem as_book (v : Value) (w : World) : (Instr.typeAssert (.iface 24 v) 20 24 false).run Tryz.prog w = .ok v w:=by kernel_rfl
attribute [local go_sem] as_book
theorem rests_Len (a : Option Addr) (n cap : Nat) (w : World) : Calls Tryz.prog 81 #[.slice a n cap] w fun e w'=>e = .returned (.int .i64 (n : Int)) ∧ w' = w:=by
 go_enter Tryz.func81,Tryz.ntmps81
 go_wp2
 go_ret
 exact ⟨rfl,rfl⟩
theorem rests_Pop {w : World} {b g cap n : Nat} {v0 v1 : Value} (h : Hp w b g cap (n + 1) v0 v1) (hn : n ≤ 1) (hc : cap ≤ 9223372036854775807) :
  Calls Tryz.prog 123 #[.pointer (some ⟨b,0,none⟩)] w fun e w'=>(∃ v,e = .returned v) ∧ Hp w' b g cap n v0 v1 ∧ Fr b g w w':=by
 have HH:=hidIt h
 have c0:=h.me
 have f0:=h.mf
 have le:=h.le
 have HC:=hidIt (h.cut (m:=n) (by omega))
 have HF:=hidIt ((Fr.refl b g w).setB 0 (.slice (some ⟨g,0,none⟩) n cap))
 have cc:=h.row n (by omega)
 generalize (if n = 0 then v0 else v1) = vn at cc
 clear h
 have hn1 : (n : Int) ≤ 1:=by omega
 go_enter Tryz.func123,Tryz.ntmps123
 go_wp2_with (fail)
 go_ret
 exact ⟨⟨_,rfl⟩,HC.out,HF.out⟩
abbrev sv (p o n c : Nat) : Value:=.slice (some ⟨p,o,none⟩) n c
theorem rests_Swap00 {w : World} {b g cap p0 o0 n0 k0 : Nat} {v1 : Value} (h : Hp w b g cap 1 (sv p0 o0 n0 k0) v1) :
  Calls Tryz.prog 125 #[.slice (some ⟨g,0,none⟩) 1 cap,.int .i64 0,.int .i64 0] w fun e w'=>e = .returned (.tuple #[]) ∧ Hp w' b g cap 1 (sv p0 o0 n0 k0) v1 ∧ Fr b g w w':=by
 have c0:=h.c0 (by omega)
 have f0:=h.rf 0
 have HH:=hidIt h
 clear h
 go_enter Tryz.func125,Tryz.ntmps125
 go_wp2_with (fail)
 go_big_region
 exact bodyPost_end (v:=.tuple #[]) (by simp [results,Tryz.results125,go_sem]) rfl ⟨rfl,((HH.out.put0 (by omega) (sv p0 o0 n0 k0)).put0 (by omega) (sv p0 o0 n0 k0)).drew,(((Fr.refl b g w).setG 0 (sv p0 o0 n0 k0)).setG 0 (sv p0 o0 n0 k0)).drew⟩
theorem rests_Swap01 {w : World} {b g cap p0 o0 n0 k0 p1 o1 n1 k1 : Nat} (h : Hp w b g cap 2 (sv p0 o0 n0 k0) (sv p1 o1 n1 k1)) :
  Calls Tryz.prog 125 #[.slice (some ⟨g,0,none⟩) 2 cap,.int .i64 0,.int .i64 1] w fun e w'=>e = .returned (.tuple #[]) ∧ Hp w' b g cap 2 (sv p1 o1 n1 k1) (sv p0 o0 n0 k0) ∧ Fr b g w w':=by
 have c0:=h.c0 (by omega)
 have c1:=h.c1 (by omega)
 have f0:=h.rf 0
 have f1:=h.rf 1
 have HH:=hidIt h
 clear h
 go_enter Tryz.func125,Tryz.ntmps125
 go_wp2_with (fail)
 go_big_region
 exact bodyPost_end (v:=.tuple #[]) (by simp [results,Tryz.results125,go_sem]) rfl ⟨rfl,((HH.out.put0 (by omega) (sv p1 o1 n1 k1)).put1 (sv p0 o0 n0 k0)).drew,(((Fr.refl b g w).setG 0 (sv p1 o1 n1 k1)).setG 1 (sv p0 o0 n0 k0)).drew⟩
theorem cells_one {w : World} {p o : Nat} {L : List Rw} (h : Rd w (some ⟨p,o,none⟩) L) (hl : 0 < L.length) : w.cell? ⟨p,o,none⟩ = some (.string (rat L 0).1) ∧ w.cell? ⟨p,o + 1,none⟩ = some (.string (rat L 0).2.1) ∧ w.cell? ⟨p,o + 2,none⟩ = some (.int .i64 (rat L 0).2.2.1) ∧ w.cell? ⟨p,o + 3,none⟩ = some (.int .i64 (rat L 0).2.2.2.1) ∧ w.cell? ⟨p,o + 4,none⟩ = some (.bool (rat L 0).2.2.2.2):=by
 obtain ⟨b',off,e,h⟩:=h.all hl
 cases e
 simpa using h
theorem rests_Less {w : World} {b g cap p0 o0 n0 k0 p1 o1 n1 k1 : Nat} {L0 L1 : List Rw} (h : Hp w b g cap 2 (sv p0 o0 n0 k0) (sv p1 o1 n1 k1)) (h0 : Rd w (some ⟨p0,o0,none⟩) L0) (h1 : Rd w (some ⟨p1,o1,none⟩) L1) (e0 : L0.length = n0) (e1 : L1.length = n1) (z0 : 0 < n0) (z1 : 0 < n1) :
  Calls Tryz.prog 122 #[.slice (some ⟨g,0,none⟩) 2 cap,.int .i64 1,.int .i64 0] w fun e w'=>e = .returned (.bool (lessE (toE (rat L1 0)) (toE (rat L0 0)))) ∧ Below w.heap.size w w':=by
 have r0:=h.c0 (by omega)
 have r1:=h.c1 (by omega)
 obtain ⟨c0,c1,c2,c3,c4⟩:=cells_one h0 (by omega)
 obtain ⟨d0,d1,d2,d3,d4⟩:=cells_one h1 (by omega)
 have CN:=hidIt (fun W=>impl_Newer (rat L1 0) (rat L0 0) W)
 have l0:=h.gl
 have l1:=cell_block c0
 have l2:=cell_block d0
 clear h h0 h1 e0 e1
 generalize rat L0 0 = x at c0 c1 c2 c3 c4 CN ⊢
 generalize rat L1 0 = y at d0 d1 d2 d3 d4 CN ⊢
 obtain ⟨xk,xv,xt,xn,xg⟩:=x
 obtain ⟨yk,yv,yt,yn,yg⟩:=y
 simp only [rv] at CN c0 c1 c2 c3 c4 d0 d1 d2 d3 d4
 have z0' : (0 : Int) < (n0 : Int):=by omega
 have z1' : (0 : Int) < (n1 : Int):=by omega
 have hl:=less_of yk xk
 have he:=eq_of yk xk
 have HW1:=hidIt (Below.drew (((Below.refl w.heap.size w).alloc (Nat.le_refl _) (.cells #[.string yk,.string yv,.int .i64 yt,.int .i64 yn,.bool yg] 78)).alloc (by simp) (.cells #[.string xk,.string xv,.int .i64 xt,.int .i64 xn,.bool xg] 78)))
 have HW2:=hidIt (Below.drew (((Below.refl w.heap.size w).alloc (Nat.le_refl _) (.cells #[.string xk,.string xv,.int .i64 xt,.int .i64 xn,.bool xg] 78)).alloc (by simp) (.cells #[.string yk,.string yv,.int .i64 yt,.int .i64 yn,.bool yg] 78)))
 by_cases hlt : bs yk < bs xk
 ·
  rw [decide_eq_true hlt] at hl
  have er : lessE (toE (yk,yv,yt,yn,yg)) (toE (xk,xv,xt,xn,xg)) = true:=Bk.lessE_lt hlt
  rw [er]
  clear he hlt er
  go_enter Tryz.func122,Tryz.ntmps122
  go_wp2_with (fail)
  go_big_region
  all_goals (go_wp2_with (fail); go_ret; first | exact ⟨rfl,HW1.out⟩ | exact ⟨rfl,HW2.out⟩)
 ·
  rw [decide_eq_false hlt] at hl
  by_cases heq : bs yk = bs xk
  ·
   rw [decide_eq_true heq] at he
   have er : lessE (toE (yk,yv,yt,yn,yg)) (toE (xk,xv,xt,xn,xg)) = newB (toE (yk,yv,yt,yn,yg)) (toE (xk,xv,xt,xn,xg)):=Bk.lessE_eq hlt heq
   rw [er]
   generalize newB (toE (yk,yv,yt,yn,yg)) (toE (xk,xv,xt,xn,xg)) = r at CN ⊢
   clear heq hlt er
   go_enter Tryz.func122,Tryz.ntmps122
   go_wp2_with (fail)
   go_big_region
   all_goals (go_wp2_with (fail); refine (CN.out _).mono ?_; rintro e w1 ⟨rfl,k1⟩; have HK:=hidIt k1; clear k1; go_wp2_with (fail); go_ret; first | exact ⟨rfl,HW1.out.trans (HK.out.mono HW1.out.size)⟩ | exact ⟨rfl,HW2.out.trans (HK.out.mono HW2.out.size)⟩)
  ·
   rw [decide_eq_false heq] at he
   have er : lessE (toE (yk,yv,yt,yn,yg)) (toE (xk,xv,xt,xn,xg)) = false:=Bk.lessE_gt hlt heq
   rw [er]
   clear heq hlt er
   go_enter Tryz.func122,Tryz.ntmps122
   go_wp2_with (fail)
   go_big_region
   all_goals (go_wp2_with (fail); go_ret; first | exact ⟨rfl,HW1.out⟩ | exact ⟨rfl,HW2.out⟩)
end Go.Proofs.YtpkkmhpobfjclaaGreat.En
