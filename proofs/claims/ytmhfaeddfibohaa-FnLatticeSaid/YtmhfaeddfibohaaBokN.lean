/-
  What DrawNewer answers, whatever the bytes: two Entries; its last region draws its order.
-/
import Derived.Test.YtmhfaeddfibohaaBokL
namespace Go.Proofs.Ytmhfaeddfibohaa.En
open Go.ChangeShapes Go.WideShapes Go.ChangeAt Go.RowKit
open Dr
open Go.Proofs.Ytmhfaeddfibohaa.Rg (upd waits wp_region_inv op_at)
set_option linter.unusedVariables false
/-- A store beside the cursor and its bytes. -/
theorem cur_aside {B c g : Nat} {w w' : World} {a : Option Addr} {len cap : Nat} (h : Cur B w c a len cap) (k : Only g w w') (hb : B ≤ g) (hc : g ≠ c) : Cur B w' c a len cap := by
  obtain ⟨here, lt, code, short, c0, ⟨i, hi, c1⟩, ⟨x, c2⟩, f1, f2⟩ := h
  have e : ∀ o, w'.cell? ⟨c, o, none⟩ = w.cell? ⟨c, o, none⟩ := fun o => k.cell (p := ⟨c, o, none⟩) lt (fun q => hc q.symm)
  have f : ∀ o, w'.frozen? ⟨c, o, none⟩ = w.frozen? ⟨c, o, none⟩ := fun o => k.frozen (p := ⟨c, o, none⟩) lt (fun q => hc q.symm)
  refine ⟨here, Nat.lt_of_lt_of_le lt k.size, ⟨fun j hj => ?_⟩, short, (e 0).trans c0, ⟨i, hi, (e 1).trans c1⟩, ⟨x, (e 2).trans c2⟩, (f 1).trans f1, (f 2).trans f2⟩
  obtain ⟨b, off, y, ea, hb', hy, r⟩ := code.cell j hj
  exact ⟨b, off, y, ea, hb', by rw [k.cell (p := ⟨b, off + j, none⟩) (cell_block hy) (by show b ≠ g; omega)]; exact hy, r⟩
theorem cur_low {B c : Nat} {w w' : World} {a : Option Addr} {len cap : Nat} (h : Cur B w' c a len cap) (hc : Dr.Code w.heap.size w a len) (k : Below w.heap.size w w') (hb : w.heap.size ≤ c) : Cur w.heap.size w' c a len cap :=
  ⟨hb, h.lt, ⟨fun i hi => by
    obtain ⟨b, off, x, ea, hb', hx, r⟩ := hc.cell i hi
    exact ⟨b, off, x, ea, hb', by rw [k.cell (by simpa using hb')]; exact hx, r⟩⟩, h.short, h.c0, h.c1, h.c2, h.f1, h.f2⟩
structure RK (B c g2 g3 g5 len cap : Nat) (ad : Option Addr) (w0 : World) (x : Rw) (L : Nat → Bool) (u10 u11 u12 : Value) (w : World) : Prop where
  cur : Cur B w c ad len cap
  low : Below w0.heap.size w0 w
  bE : Bo.Box w g5 (x5 x)
  o1 : w0.heap.size ≤ g2
  hB : B ≤ w0.heap.size
  o2 : g2 < g3
  o3 : g3 < c
  o4 : c < g5
  b2a : L 3 = false → Bo.Box w g2 ze
  b2b : L 3 = true → Bo.Box w g2 (x5 x)
  b3a : L 4 = false → Bo.Box w g3 ze
  b3b : L 4 = true → ∃ y : Rw, y.1.size ≤ 41 ∧ y.2.1.size ≤ 41 ∧ Bo.Box w g3 (x5 y)
  k0 : L 0 = true → u10 = rv x
  k1 : L 1 = true → u11 = .pointer (some ⟨c, 0, none⟩)
  k2 : L 2 = true → ∃ y : Rw, u12 = rv y ∧ y.1.size ≤ 41 ∧ y.2.1.size ≤ 41
def KK (B c g2 g3 g5 len cap : Nat) (ad : Option Addr) (w0 : World) (x : Rw) (L : Nat → Bool) (a : Act) (w : World) : Prop := ∃ u10 u11 u12 : Value, a = ⟨(.slice ad len cap :: undef :: .pointer (some ⟨g2, 0, none⟩) :: .pointer (some ⟨g3, 0, none⟩) :: .pointer (some ⟨c, 0, none⟩) :: .pointer (some ⟨g5, 0, none⟩) :: .slice ad len cap :: .pointer (some ⟨c, 0, none⟩) :: .pointer (some ⟨c, 0, none⟩) :: .agg #[.string x.1, .string x.2.1, .int .i64 x.2.2.1, .int .i64 x.2.2.2.1, .bool x.2.2.2.2] :: u10 :: u11 :: u12 :: []).toArray, []⟩ ∧ RK B c g2 g3 g5 len cap ad w0 x L u10 u11 u12 w
theorem RK.call {B c g2 g3 g5 len cap : Nat} {ad : Option Addr} {w0 : World} {x : Rw} {L : Nat → Bool} {u10 u11 u12 : Value} {w w' : World} (h : RK B c g2 g3 g5 len cap ad w0 x L u10 u11 u12 w) (hC : Cur B w' c ad len cap) (k : Only c w w') : RK B c g2 g3 g5 len cap ad w0 x L u10 u11 u12 w' := by
  have h1 := h.o1
  have h2 := h.o2
  have h3 := h.o3
  have h4 := h.o4
  exact ⟨hC, h.low.trans (k.below (by omega) h.low.size), box_oth h.bE k (by omega), h.o1, h.hB, h.o2, h.o3, h.o4, fun q => box_oth (h.b2a q) k (by omega), fun q => box_oth (h.b2b q) k (by omega), fun q => box_oth (h.b3a q) k (by omega), fun q => by obtain ⟨y, a, b, d⟩ := h.b3b q; exact ⟨y, a, b, box_oth d k (by omega)⟩, h.k0, h.k1, h.k2⟩
theorem RK.s3 {B c g2 g3 g5 len cap : Nat} {ad : Option Addr} {w0 : World} {x : Rw} {L : Nat → Bool} {u10 u11 u12 : Value} {w : World} (h : RK B c g2 g3 g5 len cap ad w0 x L u10 u11 u12 w) (hL : L 3 = false) : RK B c g2 g3 g5 len cap ad w0 x (upd L 3) u10 u11 u12 (pu5 w g2 x) := by
  have h1 := h.o1
  have h2 := h.o2
  have h3 := h.o3
  have h4 := h.o4
  have k := pu5_only w g2 x
  exact ⟨cur_aside h.cur k (by have := h.hB; omega) (by omega), h.low.trans (k.below (by omega) h.low.size), box_oth h.bE k (by omega), h.o1, h.hB, h.o2, h.o3, h.o4, (fun q => by cases q), fun q => pu5_box (h.b2a hL), fun q => box_oth (h.b3a q) k (by omega), fun q => by obtain ⟨y, a, b, d⟩ := h.b3b q; exact ⟨y, a, b, box_oth d k (by omega)⟩, h.k0, h.k1, h.k2⟩
theorem RK.s4 {B c g2 g3 g5 len cap : Nat} {ad : Option Addr} {w0 : World} {x y : Rw} {L : Nat → Bool} {u10 u11 u12 : Value} {w : World} (h : RK B c g2 g3 g5 len cap ad w0 x L u10 u11 u12 w) (hL : L 4 = false) (s1 : y.1.size ≤ 41) (s2 : y.2.1.size ≤ 41) : RK B c g2 g3 g5 len cap ad w0 x (upd L 4) u10 u11 u12 (pu5 w g3 y) := by
  have h1 := h.o1
  have h2 := h.o2
  have h3 := h.o3
  have h4 := h.o4
  have k := pu5_only w g3 y
  exact ⟨cur_aside h.cur k (by have := h.hB; omega) (by omega), h.low.trans (k.below (by omega) h.low.size), box_oth h.bE k (by omega), h.o1, h.hB, h.o2, h.o3, h.o4, fun q => box_oth (h.b2a q) k (by omega), fun q => box_oth (h.b2b q) k (by omega), (fun q => by cases q), fun q => ⟨y, s1, s2, pu5_box (h.b3a hL)⟩, h.k0, h.k1, h.k2⟩
/-- What it leaves. -/
def DrN (w : World) (e : Ending) (w' : World) : Prop := ∃ x y : Rw, e = .returned (.tuple #[rv x, rv y]) ∧ (x.1.size ≤ 41 ∧ x.2.1.size ≤ 41) ∧ (y.1.size ≤ 41 ∧ y.2.1.size ≤ 41) ∧ Below w.heap.size w w'
set_option maxRecDepth 100000 in
set_option maxHeartbeats 4000000 in
theorem DrawNewer_hid (a : Option Addr) (len cap : Nat) (w : World) (hc : Dr.Code w.heap.size w a len) (hl : len ≤ 4096) :
    Calls Try.prog 12 #[.slice a len cap] w (DrN w) := by
  have HB := hidIt (((Below.refl w.heap.size w).alloc (Nat.le_refl _) (.cells ze 30)).alloc (by simp) (.cells ze 30))
  have HC := hidIt (hc.kept HB.out)
  have HCO := hidIt hc
  have BA := hidIt ((Bo.Box.new w ze 30).alloc (.cells ze 30))
  have BB : Hid (Bo.Box ((w.alloc (.cells ze 30)).alloc (.cells ze 30)) (w.heap.size + 1) ze) := hidIt (Bo.Box.newAt (by simp))
  clear hc
  go_enter Try.func12, Try.ntmps12
  go_wp2_with (fail)
  refine (l1New_any _ a len cap _ (Nat.le_refl _) HC.out hl).mono ?_
  rintro e w1 ⟨c, rfl, hC1, k1⟩
  have hh : w.heap.size + 1 < c := by have := hC1.here; simp at this; omega
  replace hC1 := cur_low hC1 HCO.out (HB.out.trans (k1.mono HB.out.size)) (by omega)
  have HC1 := hidIt hC1
  replace BA := hidIt (BA.out.kept k1)
  replace BB := hidIt (BB.out.kept k1)
  replace HB := hidIt (HB.out.trans (k1.mono HB.out.size))
  clear hC1 k1 HC HCO
  go_wp2_with (fail)
  refine (l11DrawEntry_any _ c a len cap _ HC1.out).mono ?_
  rintro e w2 ⟨x, rfl, s1, s2, hC2, hO2⟩
  replace BA := hidIt ((box_oth BA.out hO2 (by omega)).alloc (.cells (x5 x) 30))
  replace BB := hidIt ((box_oth BB.out hO2 (by omega)).alloc (.cells (x5 x) 30))
  have BE := hidIt (Bo.Box.new w2 (x5 x) 30)
  have hlt := hC2.lt
  have HC2 := hidIt (hC2.kept ((Below.refl (c + 1) w2).alloc (by omega) (.cells (x5 x) 30)))
  have HB2 := hidIt ((HB.out.trans (hO2.below (B := w.heap.size) (by omega) HB.out.size)).alloc (Nat.le_trans HB.out.size hO2.size) (.cells (x5 x) 30))
  have HS := hidIt (And.intro s1 s2)
  clear hC2 hO2 s1 s2 HB HC1
  obtain ⟨xk, xv, xt, xn, xg⟩ := x
  go_wp2_with (fail)
  have H0 : RK w.heap.size c w.heap.size (w.heap.size + 1) w2.heap.size len cap a w (xk, xv, xt, xn, xg) (fun i => decide (5 ≤ i)) undef undef undef (w2.alloc (.cells (x5 (xk, xv, xt, xn, xg)) 30)).drew := ⟨HC2.out.drewN 1, HB2.out.drew, BE.out.drew, Nat.le_refl _, Nat.le_refl _, by omega, hh, hlt, (fun _ => BA.out.drew), (fun q => by cases q), (fun _ => BB.out.drew), (fun q => by cases q), (fun q => by cases q), (fun q => by cases q), (fun q => by cases q)⟩
  refine wp_region_inv (by kernel_rfl) (by kernel_rfl) (KK w.heap.size c w.heap.size (w.heap.size + 1) w2.heap.size len cap a w (xk, xv, xt, xn, xg)) ⟨undef, undef, undef, rfl, H0⟩ ?_ ?_
  case refine_1 =>
    clear H0 BA BB BE HC2 HB2
    intro L a' W i hi hI hL hD
    have hcases : i = 0 ∨ i = 1 ∨ i = 2 ∨ i = 3 ∨ i = 4 := by simp at hi; omega
    clear hi
    rcases hcases with rfl | rfl | rfl | rfl | rfl
    · obtain ⟨u10, u11, u12, rfl, R⟩ := hI
      have q0 := R.bE.c 0 rfl
      have q1 := R.bE.c 1 rfl
      have q2 := R.bE.c 2 rfl
      have q3 := R.bE.c 3 rfl
      have q4 := R.bE.c 4 rfl
      refine op_at rfl (fun K hK => ?_)
      go_simp
      refine hK _ _ ?_
      exact ⟨_, _, _, rfl, R.cur, R.low, R.bE, R.o1, R.hB, R.o2, R.o3, R.o4, R.b2a, R.b2b, R.b3a, R.b3b, fun _ => rfl, R.k1, R.k2⟩
    · obtain ⟨u10, u11, u12, rfl, R⟩ := hI
      refine op_at rfl (fun K hK => ?_)
      go_simp
      refine hK _ _ ?_
      exact ⟨_, _, _, rfl, R.cur, R.low, R.bE, R.o1, R.hB, R.o2, R.o3, R.o4, R.b2a, R.b2b, R.b3a, R.b3b, R.k0, fun _ => rfl, R.k2⟩
    · obtain ⟨u10, u11, u12, rfl, R⟩ := hI
      have ep := R.k1 (hD 1 (by kernel_rfl))
      subst ep
      refine op_at rfl (fun K hK => ?_)
      go_simp
      refine (l11DrawEntry_any _ c a len cap _ R.cur).mono ?_
      rintro e W1 ⟨y, rfl, y1, y2, hC, hO⟩
      go_simp
      refine hK _ _ ?_
      have R1 := R.call hC hO
      exact ⟨_, _, _, rfl, R1.cur, R1.low, R1.bE, R1.o1, R1.hB, R1.o2, R1.o3, R1.o4, R1.b2a, R1.b2b, R1.b3a, R1.b3b, R1.k0, R1.k1, fun _ => ⟨y, rfl, y1, y2⟩⟩
    · obtain ⟨u10, u11, u12, rfl, R⟩ := hI
      have ep := R.k0 (hD 0 (by kernel_rfl))
      subst ep
      have b := R.b2a hL
      have q0 := b.c 0 rfl
      have q1 := b.c 1 rfl
      have q2 := b.c 2 rfl
      have q3 := b.c 3 rfl
      have q4 := b.c 4 rfl
      have fz := b.fr
      refine op_at rfl (fun K hK => ?_)
      go_simp
      refine hK _ _ ?_
      exact ⟨_, _, _, rfl, R.s3 hL⟩
    · obtain ⟨u10, u11, u12, rfl, R⟩ := hI
      obtain ⟨y, ep, y1, y2⟩ := R.k2 (hD 2 (by kernel_rfl))
      subst ep
      obtain ⟨yk, yv, yt, yn, yg⟩ := y
      have b := R.b3a hL
      have q0 := b.c 0 rfl
      have q1 := b.c 1 rfl
      have q2 := b.c 2 rfl
      have q3 := b.c 3 rfl
      have q4 := b.c 4 rfl
      have fz := b.fr
      refine op_at rfl (fun K hK => ?_)
      go_simp
      refine hK _ _ ?_
      exact ⟨_, _, _, rfl, R.s4 (y := (yk, yv, yt, yn, yg)) hL y1 y2⟩
  case refine_2 =>
    clear H0 BA BB BE HC2 HB2
    intro L a' W hI hall
    obtain ⟨u10, u11, u12, rfl, R⟩ := hI
    have b1 := R.b2b (hall 3)
    obtain ⟨y, y1, y2, b2⟩ := R.b3b (hall 4)
    obtain ⟨yk, yv, yt, yn, yg⟩ := y
    have HL := hidIt R.low
    have HY := hidIt (And.intro y1 y2)
    have t0 := b1.c 0 rfl
    have t1 := b1.c 1 rfl
    have t2 := b1.c 2 rfl
    have t3 := b1.c 3 rfl
    have t4 := b1.c 4 rfl
    have q0 := b2.c 0 rfl
    have q1 := b2.c 1 rfl
    have q2 := b2.c 2 rfl
    have q3 := b2.c 3 rfl
    have q4 := b2.c 4 rfl
    clear R hall b1 b2 y1 y2
    go_wp2_with (fail)
    refine bodyPost_ret (v := .tuple #[.agg #[.string xk, .string xv, .int .i64 xt, .int .i64 xn, .bool xg], .agg #[.string yk, .string yv, .int .i64 yt, .int .i64 yn, .bool yg]]) (by simp [results, Try.results12, go_sem, t0, t1, t2, t3, t4, q0, q1, q2, q3, q4]) rfl ?_
    exact ⟨(xk, xv, xt, xn, xg), (yk, yv, yt, yn, yg), rfl, HS.out, HY.out, HL.out⟩
theorem DrawNewer_any (a : Option Addr) (len cap : Nat) (w : World) (hc : Dr.Code w.heap.size w a len) (hl : len ≤ 4096) :
    Calls Try.prog 12 #[.slice a len cap] w fun e w' => ∃ x y : Rw, e = .returned (.tuple #[rv x, rv y]) ∧ (x.1.size ≤ 41 ∧ x.2.1.size ≤ 41) ∧ (y.1.size ≤ 41 ∧ y.2.1.size ≤ 41) ∧ Below w.heap.size w w' := DrawNewer_hid a len cap w hc hl
end Go.Proofs.Ytmhfaeddfibohaa.En
