/-
  DrawChallenge: some two Points and some short text; it turns nothing that was.
-/
import Derived.Test.YtbjmijajngedoaaDoorSignE
namespace Go.Proofs.YtbjmijajngedoaaDoor.Sg
open Go.ChangeShapes Go.WideShapes Go.ChangeAt Go.RowKit
open Dr Cv Cu
theorem tw_only {c : Nat} {w w' : World} {b : Nat} {x y : Int} (h : Tw w b x y) (k : Only c w w') (hb : b ≠ c) : Tw w' b x y :=
  ⟨Nat.lt_of_lt_of_le h.lt k.size, by rw [k.cell (by simpa using h.lt) (by simpa using hb)]; exact h.c0, by rw [k.cell (by simpa using h.lt) (by simpa using hb)]; exact h.c1⟩
theorem tw_drew {w : World} {b : Nat} {x y : Int} (h : Tw w b x y) : Tw w.drew b x y := ⟨h.lt, h.c0, h.c1⟩
theorem put_both {w : World} {b c : Nat} {x y p q : Int} (h : Two w b (0, 0)) (k : Two w c (0, 0)) (hne : ¬ b = c) :
    Tw ((((w.setCell ⟨b, 0, none⟩ (.int .i64 x)).setCell ⟨b, 1, none⟩ (.int .i64 y)).setCell ⟨c, 0, none⟩ (.int .i64 p)).setCell ⟨c, 1, none⟩ (.int .i64 q)) b x y ∧ Tw ((((w.setCell ⟨b, 0, none⟩ (.int .i64 x)).setCell ⟨b, 1, none⟩ (.int .i64 y)).setCell ⟨c, 0, none⟩ (.int .i64 p)).setCell ⟨c, 1, none⟩ (.int .i64 q)) c p q :=
  ⟨Tw.far (Tw.far (Tw.put h.lt h.c0 h.c1) hne) hne, Tw.put (by have := k.lt; simpa [World.setCell] using this) (by rw [cell_set_far hne, cell_set_far hne]; exact k.c0) (by rw [cell_set_far hne, cell_set_far hne]; exact k.c1)⟩
set_option maxRecDepth 100000 in
set_option maxHeartbeats 8000000 in
theorem DrawChallenge_any (a : Option Addr) (len cap : Nat) (w : World) (hc : Dr.Code w.heap.size w a len) (hl : len ≤ 4096) :
    Calls Tryd.prog 10 #[.slice a len cap] w fun e w' => ∃ (x y p q : Int) (s : ByteArray), s.size ≤ 6 ∧ e = .returned (.tuple #[.agg #[.int .i64 x, .int .i64 y], .agg #[.int .i64 p, .int .i64 q], .string s]) ∧ Below w.heap.size w w' := by
  have HC := hidIt hc
  clear hc
  go_enter Tryd.func10, Tryd.ntmps10
  go_wp2_with (fail)
  refine (l1New_any _ a len cap _ (Nat.le_refl _) (code_old (code_old HC.out)) hl).mono ?_
  rintro e w1 ⟨c, rfl, hC1, hb1⟩
  have hcs : w.heap.size + 1 < c := by have := hC1.here; simp at this; omega
  have P1 := hidIt (((Two.newAt (w := w) (x := 0) (y := 0) rfl).alloc _).kept hb1 (by simp; omega))
  have Q1 := hidIt ((Two.newAt (x := 0) (y := 0) (by simp)).kept (b := w.heap.size + 1) hb1 (by simp))
  have C1 := hidIt hC1
  have B1 := hidIt (below_next (below_old (below_old (Below.refl w.heap.size w))) hb1)
  clear hC1 hb1
  go_wp2_with (fail)
  refine (l2Draw_any _ c a len cap _ C1.out).mono ?_
  rintro e w2 ⟨x, y, rfl, hC2, hO2⟩
  have P2 := hidIt (P1.out.only hO2 (by omega))
  have Q2 := hidIt (Q1.out.only hO2 (by omega))
  have c2 := hC2.lt
  have C2 := hidIt hC2
  have B2 := hidIt (B1.out.trans (hO2.below (B := w.heap.size) (by omega) B1.out.size))
  clear hC2 hO2 P1 Q1 C1 B1
  go_wp2_with (fail)
  refine (l2Draw_any _ c a len cap _ (C2.out.kept ((Below.refl (c + 1) w2).alloc (by omega) _))).mono ?_
  rintro e w3 ⟨p, q, rfl, hC3, hO3⟩
  have P3 := hidIt ((P2.out.alloc _).only hO3 (by omega))
  have Q3 := hidIt ((Q2.out.alloc _).only hO3 (by omega))
  have R3 := hidIt (tw_only (Tw.newAt (w := w2) (x := x) (y := y) (T := 27) rfl) hO3 (by omega))
  have c3 := hC3.lt
  have C3 := hidIt hC3
  have B3 := hidIt ((B2.out.alloc B2.out.size _).trans (hO3.below (B := w.heap.size) (by omega) (by have := B2.out.size; simp; omega)))
  clear hC3 hO3 P2 Q2 C2 B2
  go_upto_region 4 with fail
  have PZ := P3.out.alloc (.cells #[.int .i64 p, .int .i64 q] 27)
  have QZ := Q3.out.alloc (.cells #[.int .i64 p, .int .i64 q] 27)
  have RZ := R3.out.old (o := .cells #[.int .i64 p, .int .i64 q] 27)
  have SZ := Tw.newAt (w := w3) (x := p) (y := q) (T := 27) rfl
  have CZ := hidIt (C3.out.kept ((Below.refl (c + 1) w3).alloc (by omega) (.cells #[.int .i64 p, .int .i64 q] 27)))
  have BZ := hidIt (below_old (o := .cells #[.int .i64 p, .int .i64 q] 27) B3.out)
  have e6 : ¬ w2.heap.size = c := by omega
  have e7 : ¬ w3.heap.size = c := by omega
  have e8 : w.heap.size + 1 < w2.heap.size := by omega
  have e9 : w.heap.size + 1 < w3.heap.size := by omega
  clear P3 Q3 R3 C3 B3
  generalize w3.alloc (.cells #[.int .i64 p, .int .i64 q] 27) = wz at PZ QZ RZ SZ CZ BZ ⊢
  generalize w2.heap.size = b6 at RZ e6 e8 ⊢
  generalize w3.heap.size = b7 at SZ e7 e9 ⊢
  have HP := hidIt PZ
  have HQ := hidIt QZ
  have HR := hidIt RZ
  have HS := hidIt SZ
  have r0 := RZ.c0
  have r1 := RZ.c1
  have r2 := SZ.c0
  have r3 := SZ.c1
  clear PZ QZ RZ SZ
  have i0 : ¬ w.heap.size = b6 := by omega
  have i1 : ¬ w.heap.size = b7 := by omega
  have i2 : ¬ w.heap.size + 1 = b6 := by omega
  have i3 : ¬ w.heap.size + 1 = b7 := by omega
  have i4 : ¬ b6 = w.heap.size := by omega
  have i5 : ¬ b7 = w.heap.size := by omega
  have i6 : ¬ b6 = w.heap.size + 1 := by omega
  have i7 : ¬ b7 = w.heap.size + 1 := by omega
  go_region_with (go_at_call 29; refine (l3DrawText_any _ c a len cap _ (CZ.out.kept (Below.drew (Below.refl _ _)))).mono ?_; rintro e w4 ⟨s, hs, rfl, hC4, hO4⟩; have P4 := hidIt (HP.out.drew.only hO4 (by omega)); have Q4 := hidIt (HQ.out.drew.only hO4 (by omega)); have R4 := hidIt (tw_only (tw_drew HR.out) hO4 e6); have S4 := hidIt (tw_only (tw_drew HS.out) hO4 e7); have B4 := hidIt ((Below.drew BZ.out).trans (hO4.below (B := w.heap.size) (by omega) (by have := BZ.out.size; simp; omega))); have m0 := P4.out.c0; have m1 := P4.out.c1; have m2 := P4.out.f0; have m3 := P4.out.f1; have n0 := Q4.out.c0; have n1 := Q4.out.c1; have n2 := Q4.out.f0; have n3 := Q4.out.f1; have o0 := R4.out.c0; have o1 := R4.out.c1; have o2 := S4.out.c0; have o3 := S4.out.c1; have m4 := P4.out.lt; have n4 := Q4.out.lt; dsimp only at m0 m1 n0 n1; clear hC4 hO4)
  all_goals
    go_wp2_with fail
    refine bodyPost_ret (v := .tuple #[.agg #[.int .i64 x, .int .i64 y], .agg #[.int .i64 p, .int .i64 q], .string s]) ?_ rfl ⟨x, y, p, q, s, hs, rfl, (((B4.out.setCell (by simp) _).setCell (by simp) _).setCell (by simp) _).setCell (by simp) _⟩
    have u := put_both (x := x) (y := y) (p := p) (q := q) P4.out Q4.out (by omega)
    refine ret_via2 u.1 u.2 (fun w9 k j => ?_)
    have k0 := k.c0
    have k1 := k.c1
    have j0 := j.c0
    have j1 := j.c1
    clear k j u m0 m1 m2 m3 m4 n0 n1 n2 n3 n4 o0 o1 o2 o3 r0 r1 r2 r3
    simp [results, Tryd.results10, go_sem, k0, k1, j0, j1]
end Go.Proofs.YtbjmijajngedoaaDoor.Sg
