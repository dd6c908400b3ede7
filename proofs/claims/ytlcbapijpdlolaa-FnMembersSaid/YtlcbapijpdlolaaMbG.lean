/-
  What DrawStronger, DrawDropped and DrawBack answer, whatever the bytes.
-/
import Derived.Test.YtlcbapijpdlolaaMbF
import Derived.Test.YtlcbapijpdlolaaRegI
namespace Go.Proofs.Ytlcbapijpdlolaa.Mm
open Go.ChangeShapes Go.WideShapes Go.ChangeAt Go.RowKit
open Dr
open Go.Proofs.Ytlcbapijpdlolaa.Rg (upd waits wp_region_inv op_at)
set_option linter.unusedVariables false
abbrev z3 : Array Value := #[.int .i64 0, .int .i64 0, .int .i64 0]
abbrev x3 (x : Rw) : Array Value := #[.int .i64 x.1, .int .i64 x.2.1, .int .i64 x.2.2]
abbrev pu3 (w : World) (b : Nat) (x : Rw) : World := ((w.setCell ⟨b, 0, none⟩ (.int .i64 x.1)).setCell ⟨b, 1, none⟩ (.int .i64 x.2.1)).setCell ⟨b, 2, none⟩ (.int .i64 x.2.2)
theorem pu3_box {w : World} {b : Nat} {x0 x1 x2 : Value} {x : Rw} (h : Bo.Box w b #[x0, x1, x2]) : Bo.Box (pu3 w b x) b (x3 x) :=
  ((h.put (c' := #[.int .i64 x.1, x1, x2]) 0 _ (by simp) rfl).put (c' := #[.int .i64 x.1, .int .i64 x.2.1, x2]) 1 _ (by simp) rfl).put (c' := x3 x) 2 _ (by simp) rfl
theorem pu3_only (w : World) (b : Nat) (x : Rw) : Only b w (pu3 w b x) := (((Only.refl b w).setCell 0 _).setCell 1 _).setCell 2 _
theorem box_oth {w w' : World} {b c : Nat} {cs : Array Value} (h : Bo.Box w b cs) (k : Only c w w') (hne : ¬ b = c) : Bo.Box w' b cs :=
  ⟨Nat.lt_of_lt_of_le h.lt k.size, fun i => by rw [k.cell (p := ⟨b, i, none⟩) h.lt hne]; exact h.at' i, fun i => by rw [k.frozen (p := ⟨b, i, none⟩) h.lt hne]; exact h.fr i⟩
theorem cur_aside {B c g : Nat} {w w' : World} {a : Option Addr} {len cap : Nat} (h : Cur B w c a len cap) (k : Only g w w') (hb : B ≤ g) (hc : g ≠ c) : Cur B w' c a len cap := by
  obtain ⟨here, lt, code, short, c0, ⟨i, hi, c1⟩, ⟨x, c2⟩, f1, f2⟩ := h
  have e : ∀ o, w'.cell? ⟨c, o, none⟩ = w.cell? ⟨c, o, none⟩ := fun o => k.cell (p := ⟨c, o, none⟩) lt (fun q => hc q.symm)
  have f : ∀ o, w'.frozen? ⟨c, o, none⟩ = w.frozen? ⟨c, o, none⟩ := fun o => k.frozen (p := ⟨c, o, none⟩) lt (fun q => hc q.symm)
  refine ⟨here, Nat.lt_of_lt_of_le lt k.size, ⟨fun j hj => ?_⟩, short, (e 0).trans c0, ⟨i, hi, (e 1).trans c1⟩, ⟨x, (e 2).trans c2⟩, (f 1).trans f1, (f 2).trans f2⟩
  obtain ⟨b, off, y, ea, hb', hy, r⟩ := code.cell j hj
  exact ⟨b, off, y, ea, hb', by rw [k.cell (p := ⟨b, off + j, none⟩) (cell_block hy) (by show b ≠ g; omega)]; exact hy, r⟩
theorem cur_low {B c : Nat} {w w' : World} {a : Option Addr} {len cap : Nat} (h : Cur B w' c a len cap) (hc : Dr.Code w.heap.size w a len) (k : Below w.heap.size w w') (hb : w.heap.size ≤ c) : Cur w.heap.size w' c a len cap :=
  ⟨hb, h.lt, ⟨fun i hi => by
    obtain ⟨b, off, x, ea, hb', hx, r⟩ := hc.cell i hi
    exact ⟨b, off, x, ea, hb', by rw [k.cell (by simpa using hb')]; exact hx, r⟩⟩, h.short, h.c0, h.c1, h.c2, h.f1, h.f2⟩
structure RK (B c g2 g3 g5 len cap : Nat) (ad : Option Addr) (w0 : World) (x : Rw) (L : Nat → Bool) (u13 u14 u15 u16 u17 u18 : Value) (w : World) : Prop where
  cur : Cur B w c ad len cap
  low : Below w0.heap.size w0 w
  bE : Bo.Box w g5 (x3 x)
  o1 : w0.heap.size ≤ g2
  hB : B ≤ w0.heap.size
  o2 : g2 < g3
  o3 : g3 < c
  o4 : c < g5
  b2a : L 6 = false → Bo.Box w g2 z3
  b2b : L 6 = true → Bo.Box w g2 (x3 x)
  b3a : L 7 = false → Bo.Box w g3 z3
  b3b : L 7 = true → ∃ y : Rw, Bo.Box w g3 (x3 y)
  k0 : L 0 = true → u13 = rv x
  k1 : L 1 = true → u14 = .pointer (some ⟨c, 0, none⟩)
  k2 : L 2 = true → ∃ t : Int, u15 = .int .i64 t
  k3 : L 3 = true → u16 = .pointer (some ⟨c, 0, none⟩)
  k4 : L 4 = true → ∃ t : Int, u17 = .int .i64 t
  k5 : L 5 = true → ∃ y : Rw, u18 = rv y
def KK (B c g2 g3 g5 len cap : Nat) (ad : Option Addr) (w0 : World) (x : Rw) (L : Nat → Bool) (a : Act) (w : World) : Prop := ∃ u13 u14 u15 u16 u17 u18 : Value, a = ⟨(.slice ad len cap :: undef :: .pointer (some ⟨g2, 0, none⟩) :: .pointer (some ⟨g3, 0, none⟩) :: .pointer (some ⟨c, 0, none⟩) :: .pointer (some ⟨g5, 0, none⟩) :: .slice ad len cap :: .pointer (some ⟨c, 0, none⟩) :: .pointer (some ⟨c, 0, none⟩) :: .int .i64 x.2.1 :: .pointer (some ⟨c, 0, none⟩) :: .int .i64 x.2.2 :: .agg #[.int .i64 x.1, .int .i64 x.2.1, .int .i64 x.2.2] :: u13 :: u14 :: u15 :: u16 :: u17 :: u18 :: []).toArray, []⟩ ∧ RK B c g2 g3 g5 len cap ad w0 x L u13 u14 u15 u16 u17 u18 w
theorem RK.call {B c g2 g3 g5 len cap : Nat} {ad : Option Addr} {w0 : World} {x : Rw} {L : Nat → Bool} {u13 u14 u15 u16 u17 u18 : Value} {w w' : World} (h : RK B c g2 g3 g5 len cap ad w0 x L u13 u14 u15 u16 u17 u18 w) (hC : Cur B w' c ad len cap) (k : Only c w w') : RK B c g2 g3 g5 len cap ad w0 x L u13 u14 u15 u16 u17 u18 w' := by
  have h1 := h.o1
  have h2 := h.o2
  have h3 := h.o3
  have h4 := h.o4
  exact ⟨hC, h.low.trans (k.below (by omega) h.low.size), box_oth h.bE k (by omega), h.o1, h.hB, h.o2, h.o3, h.o4, fun q => box_oth (h.b2a q) k (by omega), fun q => box_oth (h.b2b q) k (by omega), fun q => box_oth (h.b3a q) k (by omega), fun q => by obtain ⟨y, d⟩ := h.b3b q; exact ⟨y, box_oth d k (by omega)⟩, h.k0, h.k1, h.k2, h.k3, h.k4, h.k5⟩
theorem RK.s6 {B c g2 g3 g5 len cap : Nat} {ad : Option Addr} {w0 : World} {x : Rw} {L : Nat → Bool} {u13 u14 u15 u16 u17 u18 : Value} {w : World} (h : RK B c g2 g3 g5 len cap ad w0 x L u13 u14 u15 u16 u17 u18 w) (hL : L 6 = false) : RK B c g2 g3 g5 len cap ad w0 x (upd L 6) u13 u14 u15 u16 u17 u18 (pu3 w g2 x) := by
  have h1 := h.o1
  have h2 := h.o2
  have h3 := h.o3
  have h4 := h.o4
  have k := pu3_only w g2 x
  exact ⟨cur_aside h.cur k (by have := h.hB; omega) (by omega), h.low.trans (k.below (by omega) h.low.size), box_oth h.bE k (by omega), h.o1, h.hB, h.o2, h.o3, h.o4, (fun q => by cases q), fun q => pu3_box (h.b2a hL), fun q => box_oth (h.b3a q) k (by omega), fun q => by obtain ⟨y, d⟩ := h.b3b q; exact ⟨y, box_oth d k (by omega)⟩, h.k0, h.k1, h.k2, h.k3, h.k4, h.k5⟩
theorem RK.s7 {B c g2 g3 g5 len cap : Nat} {ad : Option Addr} {w0 : World} {x y : Rw} {L : Nat → Bool} {u13 u14 u15 u16 u17 u18 : Value} {w : World} (h : RK B c g2 g3 g5 len cap ad w0 x L u13 u14 u15 u16 u17 u18 w) (hL : L 7 = false) : RK B c g2 g3 g5 len cap ad w0 x (upd L 7) u13 u14 u15 u16 u17 u18 (pu3 w g3 y) := by
  have h1 := h.o1
  have h2 := h.o2
  have h3 := h.o3
  have h4 := h.o4
  have k := pu3_only w g3 y
  exact ⟨cur_aside h.cur k (by have := h.hB; omega) (by omega), h.low.trans (k.below (by omega) h.low.size), box_oth h.bE k (by omega), h.o1, h.hB, h.o2, h.o3, h.o4, fun q => box_oth (h.b2a q) k (by omega), fun q => box_oth (h.b2b q) k (by omega), (fun q => by cases q), fun q => ⟨y, pu3_box (h.b3a hL)⟩, h.k0, h.k1, h.k2, h.k3, h.k4, h.k5⟩
/-- What it leaves. -/
def DrN (w : World) (e : Ending) (w' : World) : Prop := ∃ x y : Rw, e = .returned (.tuple #[rv x, rv y]) ∧ Below w.heap.size w w'
set_option maxRecDepth 100000 in
set_option maxHeartbeats 2000000 in
theorem DrawStronger_hid (a : Option Addr) (len cap : Nat) (w : World) (hc : Dr.Code w.heap.size w a len) (hl : len ≤ 4096) :
    Calls Try.prog 12 #[.slice a len cap] w (DrN w) := by
  have HB := hidIt (((Below.refl w.heap.size w).alloc (Nat.le_refl _) (.cells z3 29)).alloc (by simp) (.cells z3 29))
  have HC := hidIt (hc.kept HB.out)
  have HCO := hidIt hc
  have BA := hidIt ((Bo.Box.new w z3 29).alloc (.cells z3 29))
  have BB : Hid (Bo.Box ((w.alloc (.cells z3 29)).alloc (.cells z3 29)) (w.heap.size + 1) z3) := hidIt (Bo.Box.newAt (by simp))
  clear hc
  go_enter Try.func12, Try.ntmps12
  go_wp2_with (fail)
  refine (l1New_any _ a len cap _ (Nat.le_refl _) HC.out hl).mono ?_
  rintro e w1 ⟨c, rfl, hC1, k1⟩
  have hh : w.heap.size + 1 < c := by have := hC1.here; simp at this; omega
  replace hC1 := cur_low hC1 HCO.out (HB.out.trans (k1.mono HB.out.size)) (by omega)
  have HC1 := hidIt hC1
  replace BA := hidIt (BA.out.kept k1)
  replace BB := hidIt (BB.out.kept k1)
  replace HB := hidIt (HB.out.trans (k1.mono HB.out.size))
  clear hC1 k1 HC HCO
  go_wp2_with (fail)
  refine (l1Below_any _ c a len cap 3 _ (by decide) HC1.out).mono ?_
  rintro e w2 ⟨xt, _, _, rfl, hC2, hO2⟩
  replace BA := hidIt (box_oth BA.out hO2 (by omega))
  replace BB := hidIt (box_oth BB.out hO2 (by omega))
  replace HB := hidIt (HB.out.trans (hO2.below (B := w.heap.size) (by omega) HB.out.size))
  have HC2 := hidIt hC2
  clear hC2 hO2 HC1
  go_wp2_with (fail)
  refine (l1Below_any _ c a len cap 3 _ (by decide) HC2.out).mono ?_
  rintro e w3 ⟨xs, _, _, rfl, hC3, hO3⟩
  replace BA := hidIt ((box_oth BA.out hO3 (by omega)).alloc (.cells (x3 (0, xt, xs)) 29))
  replace BB := hidIt ((box_oth BB.out hO3 (by omega)).alloc (.cells (x3 (0, xt, xs)) 29))
  have BE := hidIt (Bo.Box.new w3 (x3 (0, xt, xs)) 29)
  have hlt := hC3.lt
  have HC3 := hidIt (hC3.kept ((Below.refl (c + 1) w3).alloc (by omega) (.cells (x3 (0, xt, xs)) 29)))
  have HB3 := hidIt ((HB.out.trans (hO3.below (B := w.heap.size) (by omega) HB.out.size)).alloc (Nat.le_trans HB.out.size hO3.size) (.cells (x3 (0, xt, xs)) 29))
  clear hC3 hO3 HB HC2
  go_wp2_with (fail)
  have H0 : RK w.heap.size c w.heap.size (w.heap.size + 1) w3.heap.size len cap a w (0, xt, xs) (fun i => decide (8 ≤ i)) undef undef undef undef undef undef (w3.alloc (.cells (x3 (0, xt, xs)) 29)).drew := ⟨HC3.out.drewN 1, HB3.out.drew, BE.out.drew, Nat.le_refl _, Nat.le_refl _, by omega, hh, hlt, (fun _ => BA.out.drew), (fun q => by cases q), (fun _ => BB.out.drew), (fun q => by cases q), (fun q => by cases q), (fun q => by cases q), (fun q => by cases q), (fun q => by cases q), (fun q => by cases q), (fun q => by cases q)⟩
  refine wp_region_inv (by kernel_rfl) (by kernel_rfl) (KK w.heap.size c w.heap.size (w.heap.size + 1) w3.heap.size len cap a w (0, xt, xs)) ⟨undef, undef, undef, undef, undef, undef, rfl, H0⟩ ?_ ?_
  case refine_1 =>
    clear H0 BA BB BE HC3 HB3
    intro L a' W i hi hI hL hD
    have hcases : i = 0 ∨ i = 1 ∨ i = 2 ∨ i = 3 ∨ i = 4 ∨ i = 5 ∨ i = 6 ∨ i = 7 := by simp at hi; omega
    clear hi
    rcases hcases with rfl | rfl | rfl | rfl | rfl | rfl | rfl | rfl
    · obtain ⟨u13, u14, u15, u16, u17, u18, rfl, R⟩ := hI
      have q0 := R.bE.c 0 rfl
      have q1 := R.bE.c 1 rfl
      have q2 := R.bE.c 2 rfl
      refine op_at rfl (fun K hK => ?_)
      go_simp
      refine hK _ _ ?_
      exact ⟨_, _, _, _, _, _, rfl, R.cur, R.low, R.bE, R.o1, R.hB, R.o2, R.o3, R.o4, R.b2a, R.b2b, R.b3a, R.b3b, fun _ => rfl, R.k1, R.k2, R.k3, R.k4, R.k5⟩
    · obtain ⟨u13, u14, u15, u16, u17, u18, rfl, R⟩ := hI
      refine op_at rfl (fun K hK => ?_)
      go_simp
      refine hK _ _ ?_
      exact ⟨_, _, _, _, _, _, rfl, R.cur, R.low, R.bE, R.o1, R.hB, R.o2, R.o3, R.o4, R.b2a, R.b2b, R.b3a, R.b3b, R.k0, fun _ => rfl, R.k2, R.k3, R.k4, R.k5⟩
    · obtain ⟨u13, u14, u15, u16, u17, u18, rfl, R⟩ := hI
      have ep := R.k1 (hD 1 (by kernel_rfl))
      subst ep
      refine op_at rfl (fun K hK => ?_)
      go_simp
      refine (l1Below_any _ c a len cap 3 _ (by decide) R.cur).mono ?_
      rintro e W1 ⟨t, _, _, rfl, hC, hO⟩
      go_simp
      refine hK _ _ ?_
      have R1 := R.call hC hO
      exact ⟨_, _, _, _, _, _, rfl, R1.cur, R1.low, R1.bE, R1.o1, R1.hB, R1.o2, R1.o3, R1.o4, R1.b2a, R1.b2b, R1.b3a, R1.b3b, R1.k0, R1.k1, fun _ => ⟨t, rfl⟩, R1.k3, R1.k4, R1.k5⟩
    · obtain ⟨u13, u14, u15, u16, u17, u18, rfl, R⟩ := hI
      refine op_at rfl (fun K hK => ?_)
      go_simp
      refine hK _ _ ?_
      exact ⟨_, _, _, _, _, _, rfl, R.cur, R.low, R.bE, R.o1, R.hB, R.o2, R.o3, R.o4, R.b2a, R.b2b, R.b3a, R.b3b, R.k0, R.k1, R.k2, fun _ => rfl, R.k4, R.k5⟩
    · obtain ⟨u13, u14, u15, u16, u17, u18, rfl, R⟩ := hI
      have ep := R.k3 (hD 3 (by kernel_rfl))
      subst ep
      refine op_at rfl (fun K hK => ?_)
      go_simp
      refine (l1Below_any _ c a len cap 3 _ (by decide) R.cur).mono ?_
      rintro e W1 ⟨t, _, _, rfl, hC, hO⟩
      go_simp
      refine hK _ _ ?_
      have R1 := R.call hC hO
      exact ⟨_, _, _, _, _, _, rfl, R1.cur, R1.low, R1.bE, R1.o1, R1.hB, R1.o2, R1.o3, R1.o4, R1.b2a, R1.b2b, R1.b3a, R1.b3b, R1.k0, R1.k1, R1.k2, R1.k3, fun _ => ⟨t, rfl⟩, R1.k5⟩
    · obtain ⟨u13, u14, u15, u16, u17, u18, rfl, R⟩ := hI
      obtain ⟨t, et⟩ := R.k2 (hD 2 (by kernel_rfl))
      obtain ⟨t2, et2⟩ := R.k4 (hD 4 (by kernel_rfl))
      subst et et2
      refine op_at rfl (fun K hK => ?_)
      go_simp
      refine hK _ _ ?_
      exact ⟨_, _, _, _, _, _, rfl, R.cur, R.low, R.bE, R.o1, R.hB, R.o2, R.o3, R.o4, R.b2a, R.b2b, R.b3a, R.b3b, R.k0, R.k1, R.k2, R.k3, R.k4, fun _ => ⟨(0, t, t2), rfl⟩⟩
    · obtain ⟨u13, u14, u15, u16, u17, u18, rfl, R⟩ := hI
      have ep := R.k0 (hD 0 (by kernel_rfl))
      subst ep
      have b := R.b2a hL
      have q0 := b.c 0 rfl
      have q1 := b.c 1 rfl
      have q2 := b.c 2 rfl
      have fz := b.fr
      refine op_at rfl (fun K hK => ?_)
      go_simp
      refine hK _ _ ?_
      exact ⟨_, _, _, _, _, _, rfl, R.s6 hL⟩
    · obtain ⟨u13, u14, u15, u16, u17, u18, rfl, R⟩ := hI
      obtain ⟨y, ep⟩ := R.k5 (hD 5 (by kernel_rfl))
      subst ep
      obtain ⟨yi, yt, ys⟩ := y
      have b := R.b3a hL
      have q0 := b.c 0 rfl
      have q1 := b.c 1 rfl
      have q2 := b.c 2 rfl
      have fz := b.fr
      refine op_at rfl (fun K hK => ?_)
      go_simp
      refine hK _ _ ?_
      exact ⟨_, _, _, _, _, _, rfl, R.s7 (y := (yi, yt, ys)) hL⟩
  case refine_2 =>
    clear H0 BA BB BE HC3 HB3
    intro L a' W hI hall
    obtain ⟨u13, u14, u15, u16, u17, u18, rfl, R⟩ := hI
    have b1 := R.b2b (hall 6)
    obtain ⟨y, b2⟩ := R.b3b (hall 7)
    obtain ⟨yi, yt, ys⟩ := y
    have HL := hidIt R.low
    have t0 := b1.c 0 rfl
    have t1 := b1.c 1 rfl
    have t2 := b1.c 2 rfl
    have q0 := b2.c 0 rfl
    have q1 := b2.c 1 rfl
    have q2 := b2.c 2 rfl
    clear R hall b1 b2
    go_wp2_with (fail)
    refine bodyPost_ret (v := .tuple #[.agg #[.int .i64 0, .int .i64 xt, .int .i64 xs], .agg #[.int .i64 yi, .int .i64 yt, .int .i64 ys]]) (by simp [results, Try.results12, go_sem, t0, t1, t2, q0, q1, q2]) rfl ?_
    exact ⟨(0, xt, xs), (yi, yt, ys), rfl, HL.out⟩
theorem DrawStronger_any (a : Option Addr) (len cap : Nat) (w : World) (hc : Dr.Code w.heap.size w a len) (hl : len ≤ 4096) :
    Calls Try.prog 12 #[.slice a len cap] w fun e w' => ∃ x y : Rw, e = .returned (.tuple #[rv x, rv y]) ∧ Below w.heap.size w w' := DrawStronger_hid a len cap w hc hl
set_option maxRecDepth 100000 in
set_option maxHeartbeats 2000000 in
theorem DrawBack_any (a : Option Addr) (len cap : Nat) (w : World) (hc : Dr.Code w.heap.size w a len) (hl : len ≤ 4096) :
    Calls Try.prog 20 #[.slice a len cap] w fun e w' => ∃ v L id, e = .returned (.tuple #[v, .int .i64 id]) ∧ L.length ≤ 4 ∧ Own w' w.heap.size v L ∧ Below w.heap.size w w' := by
  have C := hidIt (DrawDoubted_any a len cap w hc hl)
  clear hc
  go_enter Try.func20, Try.ntmps20
  go_wp2_with (fail)
  refine C.out.mono ?_
  rintro e w1 ⟨v, L, id, rfl, l1, o1, k1⟩
  have HO := hidIt o1
  have HB := hidIt k1
  clear o1 k1
  obtain ⟨za, zc, ez, _⟩ := HO.out.form
  subst ez
  go_wp2_with (fail)
  refine bodyPost_ret (v := .tuple #[.slice za L.length zc, .int .i64 id]) (by simp [results, Try.results20, go_sem]) rfl ⟨_, L, id, rfl, l1, HO.out, HB.out⟩
end Go.Proofs.Ytlcbapijpdlolaa.Mm
