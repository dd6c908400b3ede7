/-
  The program's next: the first of the first rest, and what is left.
-/
import Derived.Test.YtllajhieocploaaHepK
namespace Go.Proofs.Ytllajhieocploaa.En
open Go.ChangeShapes Go.WideShapes Go.ChangeAt Go.RowKit
open Go.Proofs.Ytllajhieocploaa.Bk (Bytes okE newB okBk Ris IsJoin joinB lessE)
set_option linter.unusedVariables false
/-- What lies in next's own result. -/
abbrev zE : Array Value := #[.string ⟨#[]⟩, .string ⟨#[]⟩, .int .i64 0, .int .i64 0, .bool false]
theorem last_put {w0 w : World} {b g cap n d : Nat} {v0 v1 : Value} (x : Rw) (h : Hp w b g cap n v0 v1) (f : Fr b g w0 w) (hx : Bo.Box w d zE) (hd : w0.heap.size ≤ d) (hb : d ≠ b) (hg : d ≠ g) :
    Hp (((((w.setCell ⟨d, 0, none⟩ (.string x.1)).setCell ⟨d, 1, none⟩ (.string x.2.1)).setCell ⟨d, 2, none⟩ (.int .i64 x.2.2.1)).setCell ⟨d, 3, none⟩ (.int .i64 x.2.2.2.1)).setCell ⟨d, 4, none⟩ (.bool x.2.2.2.2)) b g cap n v0 v1 ∧
    Fr b g w0 (((((w.setCell ⟨d, 0, none⟩ (.string x.1)).setCell ⟨d, 1, none⟩ (.string x.2.1)).setCell ⟨d, 2, none⟩ (.int .i64 x.2.2.1)).setCell ⟨d, 3, none⟩ (.int .i64 x.2.2.2.1)).setCell ⟨d, 4, none⟩ (.bool x.2.2.2.2)) ∧
    Bo.Box (((((w.setCell ⟨d, 0, none⟩ (.string x.1)).setCell ⟨d, 1, none⟩ (.string x.2.1)).setCell ⟨d, 2, none⟩ (.int .i64 x.2.2.1)).setCell ⟨d, 3, none⟩ (.int .i64 x.2.2.2.1)).setCell ⟨d, 4, none⟩ (.bool x.2.2.2.2)) d (rc x) :=
  ⟨((((h.other hb hg 0 _).other hb hg 1 _).other hb hg 2 _).other hb hg 3 _).other hb hg 4 _,
   ((((f.setNew hd 0 _).setNew hd 1 _).setNew hd 2 _).setNew hd 3 _).setNew hd 4 _,
   ((((hx.put 0 _ (by decide) rfl).put 1 _ (by simp) rfl).put 2 _ (by simp) rfl).put 3 _ (by simp) rfl).put 4 _ (by simp) rfl⟩
theorem last_two {w0 w : World} {b g cap d : Nat} {r : Bool} {v0 v1 : Value} (x : Rw) (h : Two w b g cap r v0 v1) (f : Fr b g w0 w) (hx : Bo.Box w d zE) (hd : w0.heap.size ≤ d) (hb : d ≠ b) (hg : d ≠ g) :
    Two (((((w.setCell ⟨d, 0, none⟩ (.string x.1)).setCell ⟨d, 1, none⟩ (.string x.2.1)).setCell ⟨d, 2, none⟩ (.int .i64 x.2.2.1)).setCell ⟨d, 3, none⟩ (.int .i64 x.2.2.2.1)).setCell ⟨d, 4, none⟩ (.bool x.2.2.2.2)) b g cap r v0 v1 ∧
    Fr b g w0 (((((w.setCell ⟨d, 0, none⟩ (.string x.1)).setCell ⟨d, 1, none⟩ (.string x.2.1)).setCell ⟨d, 2, none⟩ (.int .i64 x.2.2.1)).setCell ⟨d, 3, none⟩ (.int .i64 x.2.2.2.1)).setCell ⟨d, 4, none⟩ (.bool x.2.2.2.2)) ∧
    Bo.Box (((((w.setCell ⟨d, 0, none⟩ (.string x.1)).setCell ⟨d, 1, none⟩ (.string x.2.1)).setCell ⟨d, 2, none⟩ (.int .i64 x.2.2.1)).setCell ⟨d, 3, none⟩ (.int .i64 x.2.2.2.1)).setCell ⟨d, 4, none⟩ (.bool x.2.2.2.2)) d (rc x) := by
  cases r with
  | false => have := last_put x (h.no rfl) f hx hd hb hg; exact ⟨⟨fun _ => this.1, fun e => by cases e⟩, this.2⟩
  | true => have := last_put x (h.yes rfl) f hx hd hb hg; exact ⟨⟨fun e => (by cases e), fun _ => this.1⟩, this.2⟩
set_option maxRecDepth 100000 in
set_option maxHeartbeats 1000000 in
theorem next_1last {w : World} {b g cap p0 o0 k0 : Nat} {v1 : Value} {x : Rw} (h : Hp w b g cap 1 (sv p0 o0 1 k0) (v1)) (hc : cap ≤ maxLen) (h0 : Rd w (some ⟨p0, o0, none⟩) ([x])) (q0 : p0 ≠ b ∧ p0 ≠ g) :
    Calls Try.prog 97 #[.pointer (some ⟨b, 0, none⟩)] w fun e w' => e = .returned (rv x) ∧ (∃ u0 u1, Hp w' b g cap 0 u0 u1) ∧ Fr b g w w' := by
  have HA := hidIt ((Below.refl w.heap.size w).alloc (Nat.le_refl _) (.cells zE 87))
  have HP := hidIt (h.kept HA.out)
  have BX := hidIt (Bo.Box.new w zE 87)
  have hbs : w.heap.size ≠ b := by have := h.bl; omega
  have hgs : w.heap.size ≠ g := by have := h.gl; omega
  have me := HP.out.me
  have r0 := HP.out.c0 (by omega)
  have f0 := HP.out.rf 0
  have R0 := hidIt (fun W (k : Fr b g (w.alloc (.cells zE 87)) W) => cells_one ((h0.kept HA.out).fr k q0.1 q0.2) (by simp))
  have HFA := hidIt (Fr.of_below (b := b) (g := g) HA.out)
  have CP := hidIt (heap_Pop1 HP.out hc)
  clear h h0
  simp only [show rat [x] 0 = x from rfl] at R0
  go_enter Try.func97, Try.ntmps97
  go_wp2_with (fail)
  refine CP.out.mono ?_
  rintro e w1 ⟨⟨v, rfl⟩, h1, f1⟩
  obtain ⟨c0, c1, c2, c3, c4⟩ := R0.out _ f1
  have BX1 := hidIt (box_fr BX.out f1 hbs hgs)
  have d0 := BX1.out.c 0 rfl
  have d1 := BX1.out.c 1 rfl
  have d2 := BX1.out.c 2 rfl
  have d3 := BX1.out.c 3 rfl
  have d4 := BX1.out.c 4 rfl
  have fz := BX1.out.fr
  have HL := hidIt (last_put (w0 := w) x h1 (HFA.out.trans f1) BX1.out (Nat.le_refl _) hbs hgs)
  clear h1 f1
  obtain ⟨xk, xv, xt, xn, xg⟩ := x
  simp only at c0 c1 c2 c3 c4 HL
  go_wp2_with (fail)
  generalize (((((w1.setCell ⟨w.heap.size, 0, none⟩ (.string xk)).setCell ⟨w.heap.size, 1, none⟩ (.string xv)).setCell ⟨w.heap.size, 2, none⟩ (.int .i64 xt)).setCell ⟨w.heap.size, 3, none⟩ (.int .i64 xn)).setCell ⟨w.heap.size, 4, none⟩ (.bool xg)) = w9 at HL ⊢
  have BX9 := HL.out.2.2
  have t0 := BX9.c 0 rfl
  have t1 := BX9.c 1 rfl
  have t2 := BX9.c 2 rfl
  have t3 := BX9.c 3 rfl
  have t4 := BX9.c 4 rfl
  refine bodyPost_ret (v := .agg #[.string xk, .string xv, .int .i64 xt, .int .i64 xn, .bool xg]) (by simp [results, Try.results97, go_sem, t0, t1, t2, t3, t4]) rfl ⟨rfl, ⟨_, _, HL.out.1⟩, HL.out.2.1⟩
set_option maxRecDepth 100000 in
set_option maxHeartbeats 1000000 in
theorem next_2last {w : World} {b g cap p0 o0 k0 p1 o1 n1 k1 : Nat} {x : Rw} (h : Hp w b g cap 2 (sv p0 o0 1 k0) (sv p1 o1 n1 k1)) (hc : cap ≤ maxLen) (h0 : Rd w (some ⟨p0, o0, none⟩) ([x])) (q0 : p0 ≠ b ∧ p0 ≠ g) :
    Calls Try.prog 97 #[.pointer (some ⟨b, 0, none⟩)] w fun e w' => e = .returned (rv x) ∧ (∃ u1, Hp w' b g cap 1 (sv p1 o1 n1 k1) u1) ∧ Fr b g w w' := by
  have HA := hidIt ((Below.refl w.heap.size w).alloc (Nat.le_refl _) (.cells zE 87))
  have HP := hidIt (h.kept HA.out)
  have BX := hidIt (Bo.Box.new w zE 87)
  have hbs : w.heap.size ≠ b := by have := h.bl; omega
  have hgs : w.heap.size ≠ g := by have := h.gl; omega
  have me := HP.out.me
  have r0 := HP.out.c0 (by omega)
  have f0 := HP.out.rf 0
  have R0 := hidIt (fun W (k : Fr b g (w.alloc (.cells zE 87)) W) => cells_one ((h0.kept HA.out).fr k q0.1 q0.2) (by simp))
  have HFA := hidIt (Fr.of_below (b := b) (g := g) HA.out)
  have CP := hidIt (heap_Pop2 HP.out hc)
  clear h h0
  simp only [show rat [x] 0 = x from rfl] at R0
  go_enter Try.func97, Try.ntmps97
  go_wp2_with (fail)
  refine CP.out.mono ?_
  rintro e w1 ⟨⟨v, rfl⟩, h1, f1⟩
  obtain ⟨c0, c1, c2, c3, c4⟩ := R0.out _ f1
  have BX1 := hidIt (box_fr BX.out f1 hbs hgs)
  have d0 := BX1.out.c 0 rfl
  have d1 := BX1.out.c 1 rfl
  have d2 := BX1.out.c 2 rfl
  have d3 := BX1.out.c 3 rfl
  have d4 := BX1.out.c 4 rfl
  have fz := BX1.out.fr
  have HL := hidIt (last_put (w0 := w) x h1 (HFA.out.trans f1) BX1.out (Nat.le_refl _) hbs hgs)
  clear h1 f1
  obtain ⟨xk, xv, xt, xn, xg⟩ := x
  simp only at c0 c1 c2 c3 c4 HL
  go_wp2_with (fail)
  generalize (((((w1.setCell ⟨w.heap.size, 0, none⟩ (.string xk)).setCell ⟨w.heap.size, 1, none⟩ (.string xv)).setCell ⟨w.heap.size, 2, none⟩ (.int .i64 xt)).setCell ⟨w.heap.size, 3, none⟩ (.int .i64 xn)).setCell ⟨w.heap.size, 4, none⟩ (.bool xg)) = w9 at HL ⊢
  have BX9 := HL.out.2.2
  have t0 := BX9.c 0 rfl
  have t1 := BX9.c 1 rfl
  have t2 := BX9.c 2 rfl
  have t3 := BX9.c 3 rfl
  have t4 := BX9.c 4 rfl
  refine bodyPost_ret (v := .agg #[.string xk, .string xv, .int .i64 xt, .int .i64 xn, .bool xg]) (by simp [results, Try.results97, go_sem, t0, t1, t2, t3, t4]) rfl ⟨rfl, ⟨_, HL.out.1⟩, HL.out.2.1⟩
set_option maxRecDepth 100000 in
set_option maxHeartbeats 1000000 in
theorem next_1more {w : World} {b g cap p0 o0 k0 m : Nat} {v1 : Value} {x y : Rw} {L : List Rw} (h : Hp w b g cap 1 (sv p0 o0 (m + 2) k0) (v1)) (hc : cap ≤ maxLen) (h0 : Rd w (some ⟨p0, o0, none⟩) (x :: y :: L)) (q0 : p0 ≠ b ∧ p0 ≠ g) (hm : L.length = m) (hk : m + 2 ≤ k0) :
    Calls Try.prog 97 #[.pointer (some ⟨b, 0, none⟩)] w fun e w' => e = .returned (rv x) ∧ (∃ u1, Hp w' b g cap 1 (sv p0 (o0 + 5) (m + 1) (k0 - 1)) u1) ∧ Fr b g w w' := by
  have HA := hidIt ((Below.refl w.heap.size w).alloc (Nat.le_refl _) (.cells zE 87))
  have HP := hidIt (h.kept HA.out)
  have BX := hidIt (Bo.Box.new w zE 87)
  have hbs : w.heap.size ≠ b := by have := h.bl; omega
  have hgs : w.heap.size ≠ g := by have := h.gl; omega
  have me := HP.out.me
  have r0 := HP.out.c0 (by omega)
  have f0 := HP.out.rf 0
  have R0 := hidIt (fun W (k : Fr b g (w.alloc (.cells zE 87)) W) => cells_one ((h0.kept HA.out).fr k q0.1 q0.2) (by simp))
  have HFA := hidIt (Fr.of_below (b := b) (g := g) HA.out)
  have HS := hidIt ((HP.out.put0 (by omega) (sv p0 (o0 + 5) (m + 1) (k0 - 1))).drew)
  have HFS := hidIt (((Fr.refl b g (w.alloc (.cells zE 87))).setG 0 (sv p0 (o0 + 5) (m + 1) (k0 - 1))).drew)
  have CF := hidIt (heap_Fix1 HS.out)
  clear h h0
  simp only [show rat (x :: y :: L) 0 = x from rfl] at R0
  have hk1 : (1 : Int) ≤ ((m + 2 : Nat) : Int) := by omega
  have hk2 : ((m + 2 : Nat) : Int) ≤ (k0 : Int) := by omega
  have hk3 : ¬ ((m + 2 : Nat) : Int) = 1 := by omega
  have hk4 : ((m + 2 : Nat) == 1) = false := by simp
  clear hm q0
  go_enter Try.func97, Try.ntmps97
  go_wp2_with (fail)
  go_big_region
  go_wp2_with (fail)
  refine CF.out.mono ?_
  rintro e w1 ⟨rfl, ew⟩
  have h1 := HS.out
  have f2 := HFS.out
  rw [← ew] at h1 f2
  clear ew HS HFS CF
  obtain ⟨c0, c1, c2, c3, c4⟩ := R0.out _ f2
  have BX1 := hidIt (box_fr BX.out f2 hbs hgs)
  have d0 := BX1.out.c 0 rfl
  have d1 := BX1.out.c 1 rfl
  have d2 := BX1.out.c 2 rfl
  have d3 := BX1.out.c 3 rfl
  have d4 := BX1.out.c 4 rfl
  have fz := BX1.out.fr
  have HL := hidIt (last_put (w0 := w) x h1 (HFA.out.trans f2) BX1.out (Nat.le_refl _) hbs hgs)
  clear h1 f2
  obtain ⟨xk, xv, xt, xn, xg⟩ := x
  simp only at c0 c1 c2 c3 c4 HL
  go_wp2_with (fail)
  generalize (((((w1.setCell ⟨w.heap.size, 0, none⟩ (.string xk)).setCell ⟨w.heap.size, 1, none⟩ (.string xv)).setCell ⟨w.heap.size, 2, none⟩ (.int .i64 xt)).setCell ⟨w.heap.size, 3, none⟩ (.int .i64 xn)).setCell ⟨w.heap.size, 4, none⟩ (.bool xg)) = w9 at HL ⊢
  have BX9 := HL.out.2.2
  have t0 := BX9.c 0 rfl
  have t1 := BX9.c 1 rfl
  have t2 := BX9.c 2 rfl
  have t3 := BX9.c 3 rfl
  have t4 := BX9.c 4 rfl
  refine bodyPost_ret (v := .agg #[.string xk, .string xv, .int .i64 xt, .int .i64 xn, .bool xg]) (by simp [results, Try.results97, go_sem, t0, t1, t2, t3, t4]) rfl ⟨rfl, ⟨_, HL.out.1⟩, HL.out.2.1⟩
set_option maxRecDepth 100000 in
set_option maxHeartbeats 1000000 in
theorem next_2more {w : World} {b g cap p0 o0 k0 m p1 o1 n1 k1 : Nat} {x y : Rw} {L L1 : List Rw} (h : Hp w b g cap 2 (sv p0 o0 (m + 2) k0) (sv p1 o1 n1 k1)) (hc : cap ≤ maxLen) (h0 : Rd w (some ⟨p0, o0, none⟩) (x :: y :: L)) (q0 : p0 ≠ b ∧ p0 ≠ g) (hm : L.length = m) (hk : m + 2 ≤ k0) (h1 : Rd w (some ⟨p1, o1, none⟩) L1) (e1 : L1.length = n1) (z1 : 0 < n1) (q1 : p1 ≠ b ∧ p1 ≠ g) :
    Calls Try.prog 97 #[.pointer (some ⟨b, 0, none⟩)] w fun e w' => e = .returned (rv x) ∧ Two w' b g cap (lessE (toE (rat L1 0)) (toE y)) (sv p0 (o0 + 5) (m + 1) (k0 - 1)) (sv p1 o1 n1 k1) ∧ Fr b g w w' := by
  have HA := hidIt ((Below.refl w.heap.size w).alloc (Nat.le_refl _) (.cells zE 87))
  have HP := hidIt (h.kept HA.out)
  have BX := hidIt (Bo.Box.new w zE 87)
  have hbs : w.heap.size ≠ b := by have := h.bl; omega
  have hgs : w.heap.size ≠ g := by have := h.gl; omega
  have me := HP.out.me
  have r0 := HP.out.c0 (by omega)
  have f0 := HP.out.rf 0
  have R0 := hidIt (fun W (k : Fr b g (w.alloc (.cells zE 87)) W) => cells_one ((h0.kept HA.out).fr k q0.1 q0.2) (by simp))
  have HFA := hidIt (Fr.of_below (b := b) (g := g) HA.out)
  have HS := hidIt ((HP.out.put0 (by omega) (sv p0 (o0 + 5) (m + 1) (k0 - 1))).drew)
  have HFS := hidIt (((Fr.refl b g (w.alloc (.cells zE 87))).setG 0 (sv p0 (o0 + 5) (m + 1) (k0 - 1))).drew)
  have CF := hidIt (heap_Fix2 (L0 := y :: L) (L1 := L1) HS.out (((h0.kept HA.out).tail).fr HFS.out q0.1 q0.2) ((h1.kept HA.out).fr HFS.out q1.1 q1.2) (by simp [hm]) e1 (by omega) z1)
  clear h h0 h1 e1 z1 q1
  simp only [show rat (y :: L) 0 = y from rfl] at CF
  generalize lessE (toE (rat L1 0)) (toE y) = r at CF ⊢
  simp only [show rat (x :: y :: L) 0 = x from rfl] at R0
  have hk1 : (1 : Int) ≤ ((m + 2 : Nat) : Int) := by omega
  have hk2 : ((m + 2 : Nat) : Int) ≤ (k0 : Int) := by omega
  have hk3 : ¬ ((m + 2 : Nat) : Int) = 1 := by omega
  have hk4 : ((m + 2 : Nat) == 1) = false := by simp
  clear hm q0
  go_enter Try.func97, Try.ntmps97
  go_wp2_with (fail)
  go_big_region
  go_wp2_with (fail)
  refine CF.out.mono ?_
  rintro e w1 ⟨rfl, h1, f1⟩
  have f2 := HFS.out.trans f1
  obtain ⟨c0, c1, c2, c3, c4⟩ := R0.out _ f2
  have BX1 := hidIt (box_fr BX.out f2 hbs hgs)
  have d0 := BX1.out.c 0 rfl
  have d1 := BX1.out.c 1 rfl
  have d2 := BX1.out.c 2 rfl
  have d3 := BX1.out.c 3 rfl
  have d4 := BX1.out.c 4 rfl
  have fz := BX1.out.fr
  have HL := hidIt (last_two (w0 := w) x h1 (HFA.out.trans f2) BX1.out (Nat.le_refl _) hbs hgs)
  clear h1 f1 f2
  obtain ⟨xk, xv, xt, xn, xg⟩ := x
  simp only at c0 c1 c2 c3 c4 HL
  go_wp2_with (fail)
  generalize (((((w1.setCell ⟨w.heap.size, 0, none⟩ (.string xk)).setCell ⟨w.heap.size, 1, none⟩ (.string xv)).setCell ⟨w.heap.size, 2, none⟩ (.int .i64 xt)).setCell ⟨w.heap.size, 3, none⟩ (.int .i64 xn)).setCell ⟨w.heap.size, 4, none⟩ (.bool xg)) = w9 at HL ⊢
  have BX9 := HL.out.2.2
  have t0 := BX9.c 0 rfl
  have t1 := BX9.c 1 rfl
  have t2 := BX9.c 2 rfl
  have t3 := BX9.c 3 rfl
  have t4 := BX9.c 4 rfl
  refine bodyPost_ret (v := .agg #[.string xk, .string xv, .int .i64 xt, .int .i64 xn, .bool xg]) (by simp [results, Try.results97, go_sem, t0, t1, t2, t3, t4]) rfl ⟨rfl, HL.out.1, HL.out.2.1⟩
end Go.Proofs.Ytllajhieocploaa.En
