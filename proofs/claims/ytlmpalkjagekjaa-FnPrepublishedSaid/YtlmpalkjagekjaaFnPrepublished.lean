/-
  FnPrepublished answers true at every slice of bytes and leaves it as it was: of Rolls that NewRoll and 24 Steps of the program make, the key of what signs at one is among what is Served at each other that is no further than MaxTtl away. No condition.
-/
import Derived.Test.YtlmpalkjagekjaaRows
import Derived.WalkKit
import Derived.ProofKit
import Derived.OpenShut
import Derived.ShutString
import Derived.ChangeOld
import Derived.Below
import Derived.Lib.SmallJoins
import Derived.Test.YtlmpalkjagekjaaPreP
import Derived.Test.YtlmpalkjagekjaaRolR
import Derived.Test.YtlmpalkjagekjaaPickF
import Derived.Deep.RegionHeld3
import Derived.Deep.Cut
import Derived.Deep.CutRange
import Derived.Laws.StructEq
namespace Go.Proofs.Ytlmpalkjagekjaa.fnPrepublished
open Go.ChangeShapes Go.WideShapes Go.ChangeAt Go.RowKit Go.Joins
set_option linter.unusedVariables false

theorem own : ownKnob Try.prog.godebug = none := by kernel_rfl
theorem laidOut : laidOutB Try.prog = true := by kernel_rfl
/-- A row of integers that came in: nil, or cells at an address. -/
def IsRow (k : IntKind) (w : World) (a : Option Addr) (len cap : Nat) (zs : List Int) : Prop :=
  (a = none ∧ len = 0 ∧ cap = 0 ∧ zs = []) ∨
  ∃ x, a = some x ∧ len ≤ cap ∧ cap ≤ maxLen ∧ zs.length = cap ∧ (∀ i, i < zs.length → w.cell? (x.add i) = some (.int k (zs.getD i 0))) ∧ ∀ n ∈ zs, (Lit.int k n).wf = true
open Ro
theorem code_of {w : World} {a : Option Addr} {len cap : Nat} {zs : List Int} (h : IsRow .u8 w a len cap zs) : Dr.Code w.heap.size w a len := by
  refine ⟨fun i hi => ?_⟩
  rcases h with ⟨rfl, rfl, rfl, rfl⟩ | ⟨x, rfl, hl, hm, hz, hcell, hwz⟩
  · omega
  · have hc := hcell i (by omega)
    obtain ⟨b, off, spot⟩ := x
    have h00 := hcell 0 (by omega)
    have hspot : spot = none := by simpa [Addr.add] using World.cell?_spot h00
    subst hspot
    have hc0 : w.cell? ⟨b, off + i, none⟩ = some (.int .u8 (zs.getD i 0)) := by
      by_cases e : i = 0
      · subst e; simpa [Addr.add] using hc
      · simpa [Addr.add, e] using hc
    have hw := hwz (zs.getD i 0) (by rw [List.getD_eq_getElem?_getD, List.getElem?_eq_getElem (by omega)]; simp)
    have hb : b < w.heap.size := by
      refine Decidable.byContradiction fun hn => ?_
      have hx : w.heap[b]? = none := by simp; omega
      simp [World.cell?, hx] at hc0
    have hbd := bounds_u8 hw
    exact ⟨b, off, _, rfl, hb, hc0, hbd.1, hbd.2⟩
abbrev c5 (r : R5) : Array Value := #[.int .i64 r.1, .int .i64 r.2.1, .int .i64 r.2.2.1, .int .i64 r.2.2.2.1, .int .i64 r.2.2.2.2]
/-- The five cells of a Roll in a block. -/
abbrev five (w : World) (g : Nat) (p m o n a : Int) : Prop := w.cell? ⟨g, 0, none⟩ = some (.int .i64 p) ∧ w.cell? ⟨g, 1, none⟩ = some (.int .i64 m) ∧ w.cell? ⟨g, 2, none⟩ = some (.int .i64 o) ∧ w.cell? ⟨g, 3, none⟩ = some (.int .i64 n) ∧ w.cell? ⟨g, 4, none⟩ = some (.int .i64 a)
theorem five_of {w : World} {g : Nat} {p m o n a : Int} (h : Bo.Box w g #[.int .i64 p, .int .i64 m, .int .i64 o, .int .i64 n, .int .i64 a]) : five w g p m o n a := ⟨h.c 0 rfl, h.c 1 rfl, h.c 2 rfl, h.c 3 rfl, h.c 4 rfl⟩
abbrev put5 (w : World) (b : Nat) (p m o n a : Int) : World := ((((w.setCell ⟨b, 0, none⟩ (.int .i64 p)).setCell ⟨b, 1, none⟩ (.int .i64 m)).setCell ⟨b, 2, none⟩ (.int .i64 o)).setCell ⟨b, 3, none⟩ (.int .i64 n)).setCell ⟨b, 4, none⟩ (.int .i64 a)
theorem put5_box {w : World} {b : Nat} {x0 x1 x2 x3 x4 : Value} {p m o n a : Int} (h : Bo.Box w b #[x0, x1, x2, x3, x4]) : Bo.Box (put5 w b p m o n a) b #[.int .i64 p, .int .i64 m, .int .i64 o, .int .i64 n, .int .i64 a] :=
  ((((h.put (c' := #[.int .i64 p, x1, x2, x3, x4]) 0 _ (by simp) rfl).put (c' := #[.int .i64 p, .int .i64 m, x2, x3, x4]) 1 _ (by simp) rfl).put (c' := #[.int .i64 p, .int .i64 m, .int .i64 o, x3, x4]) 2 _ (by simp) rfl).put (c' := #[.int .i64 p, .int .i64 m, .int .i64 o, .int .i64 n, x4]) 3 _ (by simp) rfl).put (c' := #[.int .i64 p, .int .i64 m, .int .i64 o, .int .i64 n, .int .i64 a]) 4 _ (by simp) rfl
theorem put5_other {w : World} {b d : Nat} {c : Array Value} {p m o n a : Int} (h : Bo.Box w b c) (e : d ≠ b) : Bo.Box (put5 w d p m o n a) b c := ((((h.other e).other e).other e).other e).other e
theorem put5_only (w : World) (b : Nat) (p m o n a : Int) : Only b w (put5 w b p m o n a) := ((((((Only.refl b w).setCell 0 _).setCell 1 _).setCell 2 _).setCell 3 _).setCell 4 _)
theorem put5_below {w v : World} {B b : Nat} {p m o n a : Int} (h : Below B w v) (hb : B ≤ b) : Below B w (put5 v b p m o n a) := ((((h.setCell hb _).setCell hb _).setCell hb _).setCell hb _).setCell hb _
theorem box_keptB {w w' : World} {b B : Nat} {c : Array Value} (h : Bo.Box w b c) (k : Below B w w') (hb : b < B) : Bo.Box w' b c :=
  ⟨Nat.lt_of_lt_of_le h.lt k.size, fun i => by rw [k.cell (by simpa using hb)]; exact h.at' i, fun i => by rw [k.frozen (by simpa using hb)]; exact h.fr i⟩
theorem infoI : (Try.prog.info? 2).map (fun i => (i.zero, i.size, i.bytes)) = some (some (.int .i64 0), 1, 8) := by kernel_rfl
theorem fresh1 (w : World) (x : Int) (T : TypeId) : ∀ j u, ([Value.int .i64 x] : List Value)[j]? = some u → (w.alloc (.cells #[.int .i64 x] T)).cell? ((⟨w.heap.size, 0, none⟩ : Addr).add j) = some u := by
  intro j u hj
  match j, hj with
  | 0, hj => simp at hj; subst hj; simp [Addr.add]
theorem one1 (x : Int) : ∀ u ∈ ([Value.int .i64 x] : List Value), u.oneCell' = true := by
  intro u hu
  simp at hu
  subst hu
  rfl
theorem take_lat {L : List Pt.Ln} {i : Nat} (h : i < L.length) : L.take (i + 1) = L.take i ++ [Pt.lat L i] := by
  rw [List.take_add_one, Pt.lat_getElem? h]
  rfl
abbrev z5 : Obj := .cells #[.int .i64 0, .int .i64 0, .int .i64 0, .int .i64 0, .int .i64 0] 25
set_option maxRecDepth 100000 in
set_option maxHeartbeats 16000000 in

theorem walk (a0 : Option Addr) (len0 cap0 : Nat) (z0 : List Int) (w : World) (w0 : IsRow .u8 w a0 len0 cap0 z0) :
    Calls Try.prog 3 #[.slice a0 len0 cap0] w fun e w' => e = .returned (.bool true) ∧ Below w.heap.size w w' := by
  obtain ⟨i0, hi0, hz0, hz1, hz2⟩ := info_parts Rl.infoRl
  obtain ⟨j0, hj0, hk0, hk1, hk2⟩ := info_parts infoI
  obtain ⟨f, hf⟩ := (code_of w0).values
  have HF := hidIt hf
  clear w0 hf
  have cbig := Dr.big_any a0 len0 cap0
  by_cases hbig : 4096 < len0
  · rw [decide_eq_true (show (4096 : Int) < (len0 : Int) by omega)] at cbig
    have CBig := hidIt cbig
    clear cbig
    go_enter Try.func3, Try.ntmps3
    go_wp2_with (fail)
    refine (CBig.out _).mono ?_
    rintro e w1 ⟨rfl, hz⟩
    rw [hz]
    clear hz
    go_wp2_with (fail)
    go_ret
    exact ⟨rfl, Below.refl _ _⟩
  have hl : len0 ≤ 4096 := by omega
  rw [decide_eq_false (show ¬ (4096 : Int) < (len0 : Int) by omega)] at cbig
  have CBig := hidIt cbig
  clear cbig hbig
  have P1 := hidIt (fun W (k : Below w.heap.size w W) => Dr.pick_fix w.heap.size a0 len0 cap0 1 2000 f W (HF.out.kept k) hl (by decide) (by decide) (by decide))
  have P2 := hidIt (fun W (k : Below w.heap.size w W) => Dr.pick_fix w.heap.size a0 len0 cap0 2 2000 f W (HF.out.kept k) hl (by decide) (by decide) (by decide))
  obtain ⟨x0, x1⟩ := Dr.pk_bound f len0 1 (n := 2000) (by decide)
  obtain ⟨y0, y1⟩ := Dr.pk_bound f len0 2 (n := 2000) (by decide)
  generalize Dr.pk f len0 1 2000 = s1 at P1 x0 x1
  generalize Dr.pk f len0 2 2000 = s2 at P2 y0 y1
  have CP : Hid (∀ W, Below w.heap.size w W → ∀ seed n : Int, 0 ≤ seed → seed ≤ 1000000 → 0 < n → Calls Try.prog 6 #[.slice a0 len0 cap0, .int .i64 seed, .int .i64 n] W fun e w' => ∃ x : Int, 0 ≤ x ∧ x < n ∧ e = .returned (.int .i64 x) ∧ w' = W) := hidIt (fun W k seed n h0 h1 hn => Dr.pick_any w.heap.size a0 len0 cap0 seed n W (HF.out.kept k).code hl h0 h1 hn)
  have hok : rollOk 1 (1 + s1) (1 + s2) 0 0 = true := rollOk_mk (by simp [secB, inB]; omega) (by simp [secB, inB]; omega) (by decide) (.inl ⟨rfl, rfl⟩)
  have CI := hidIt (fun W => impl_NewRoll (1 + s1) (1 + s2) 0 W)
  have CS := hidIt (fun W => spec_NewRoll (1 + s1) (1 + s2) 0 W)
  rw [show newR (1 + s1) (1 + s2) 0 = ((1, 1 + s1, 1 + s2, 0, 0), true) by simp [newR, hok]] at CI CS
  have HOK : Hid (okT (1, 1 + s1, 1 + s2, 0, 0) = true) := hidIt hok
  clear hok HF
  go_enter Try.func3, Try.ntmps3
  go_wp2_with (fail)
  refine (CBig.out _).mono ?_
  rintro e w1 ⟨rfl, hz⟩
  rw [hz]
  clear hz CBig
  go_wp2_with (fail)
  refine (P1.out _ (Below.refl _ _)).mono ?_
  rintro e w1 ⟨rfl, hz⟩
  rw [hz]
  clear hz
  go_wp2_with (fail)
  refine (P2.out _ (Below.refl _ _)).mono ?_
  rintro e w1 ⟨rfl, hz⟩
  rw [hz]
  clear hz
  go_wp2_with (fail)
  refine (CI.out _).mono ?_
  rintro e w1 ⟨rfl, k1⟩
  have HB := hidIt (k1.alloc k1.size (.cells #[.int .i64 1, .int .i64 (1 + s1), .int .i64 (1 + s2), .int .i64 0, .int .i64 0] 25))
  have BX := hidIt (Bo.Box.new w1 #[.int .i64 1, .int .i64 (1 + s1), .int .i64 (1 + s2), .int .i64 0, .int .i64 0] 25)
  have hg3 : Hid (w.heap.size ≤ w1.heap.size) := hidIt k1.size
  clear k1
  go_wp2_with (fail)
  refine (P1.out _ HB.out).mono ?_
  rintro e w2 ⟨rfl, hz⟩
  rw [hz]
  clear hz w2
  go_wp2_with (fail)
  refine (P2.out _ HB.out).mono ?_
  rintro e w2 ⟨rfl, hz⟩
  rw [hz]
  clear hz w2
  go_wp2_with (fail)
  refine (CS.out _).mono ?_
  rintro e w2 ⟨rfl, k2⟩
  replace HB := hidIt ((HB.out.trans (k2.mono HB.out.size)).alloc (Nat.le_trans HB.out.size k2.size) (.cells #[.int .i64 1, .int .i64 (1 + s1), .int .i64 (1 + s2), .int .i64 0, .int .i64 0] 25))
  replace BX := hidIt ((BX.out.kept k2).alloc (.cells #[.int .i64 1, .int .i64 (1 + s1), .int .i64 (1 + s2), .int .i64 0, .int .i64 0] 25))
  have BY := hidIt (Bo.Box.new w2 #[.int .i64 1, .int .i64 (1 + s1), .int .i64 (1 + s2), .int .i64 0, .int .i64 0] 25)
  have hlt3 : w1.heap.size < (w2.alloc (.cells #[.int .i64 1, .int .i64 (1 + s1), .int .i64 (1 + s2), .int .i64 0, .int .i64 0] 25)).heap.size := BX.out.lt
  clear k2 P1 P2 CI CS
  generalize w1.heap.size = g3 at *
  go_upto_region 5 with fail
  generalize w2.heap.size = g5 at *
  generalize w2.alloc (.cells #[.int .i64 1, .int .i64 (1 + s1), .int .i64 (1 + s2), .int .i64 0, .int .i64 0] 25) = W5 at *
  have d0 := BX.out.c 0 (v := .int .i64 1) rfl
  have d1 := BX.out.c 1 (v := .int .i64 (1 + s1)) rfl
  have d2 := BX.out.c 2 (v := .int .i64 (1 + s2)) rfl
  have d3 := BX.out.c 3 (v := .int .i64 0) rfl
  have d4 := BX.out.c 4 (v := .int .i64 0) rfl
  have e0 := BY.out.c 0 (v := .int .i64 1) rfl
  have e1 := BY.out.c 1 (v := .int .i64 (1 + s1)) rfl
  have e2 := BY.out.c 2 (v := .int .i64 (1 + s2)) rfl
  have e3 := BY.out.c 3 (v := .int .i64 0) rfl
  have e4 := BY.out.c 4 (v := .int .i64 0) rfl
  go_wp2_with (fail)
  clear d0 d1 d2 d3 d4 e0 e1 e2 e3 e4 BY
  have HT : Hid (Iv.Own ((W5.alloc (.cells #[] 2)).alloc (.cells #[] 25)) W5.heap.size (.slice (some ⟨W5.heap.size, 0, none⟩) 0 0) []) := hidIt ((Iv.Own.new W5).alloc _)
  have HR : Hid (Rl.Own ((W5.alloc (.cells #[] 2)).alloc (.cells #[] 25)) W5.heap.size (.slice (some ⟨W5.heap.size + 1, 0, none⟩) 0 0) []) := hidIt (by simpa using (Rl.Own.new (W5.alloc (.cells #[] 2))).mono (b' := W5.heap.size) (by simp))
  replace BX : Hid (Bo.Box ((W5.alloc (.cells #[] 2)).alloc (.cells #[] 25)) g3 (c5 (1, 1 + s1, 1 + s2, 0, 0))) := hidIt ((BX.out.alloc _).alloc _)
  have HBB : Hid (Below w.heap.size w ((W5.alloc (.cells #[] 2)).alloc (.cells #[] 25))) := hidIt ((HB.out.alloc HB.out.size _).alloc (by have := HB.out.size; simp; omega) _)
  have hbs : Hid (W5.heap.size ≤ ((W5.alloc (.cells #[] 2)).alloc (.cells #[] 25)).heap.size) := hidIt (by simp; omega)
  have hgw : Hid (w.heap.size ≤ W5.heap.size) := hidIt HB.out.size
  clear HB
  generalize hbb : W5.heap.size = bb at *
  go_loopw [7, 8, 9, 10] (fun v7 v8 v9 v10 wx => ∃ (i : Nat) (now : Int) (L : List TR) (r : R5), v10 = .int .i64 i ∧ i ≤ 24 ∧ v9 = .int .i64 now ∧ 0 ≤ now ∧ now ≤ 89 * i ∧ Hid (L.length = i) ∧ Hid (∀ x ∈ L, 0 ≤ x.1) ∧ Hid (Inv L r now) ∧ Hid (Iv.Own wx bb v7 (L.map Prod.fst)) ∧ Hid (Rl.Own wx bb v8 (L.map Prod.snd)) ∧ Hid (Bo.Box wx g3 (c5 r)) ∧ Hid (Below w.heap.size w wx) ∧ Hid (bb ≤ wx.heap.size)) (fun _ _ _ y _ => (24 - intOf y).toNat)
  case atStart => exact ⟨0, 0, [], (1, 1 + s1, 1 + s2, 0, 0), rfl, by omega, rfl, by omega, by omega, hidIt rfl, hidIt (fun x hx => by cases hx), hidIt (Inv.start HOK.out), HT, HR, BX, HBB, hbs⟩
  case round =>
    obtain ⟨i, now, L, r, rfl, hi, rfl, hn0, hn1, HL, HP, HI, HTx, HRx, BXx, HBx, hbx⟩ := hrel
    clear HT HR BX HBB hbs
    by_cases hin : i < 24
    · have hin' : (i : Int) < 24 := by omega
      go_wp2_with (fail)
      refine (CP.out _ HBx.out (10 + (i : Int)) 70 (by omega) (by omega) (by decide)).mono ?_
      rintro e wp ⟨x, hx0, hx1, rfl, hz⟩
      rw [hz]
      clear hz wp
      go_wp2_with (fail)
      generalize hN : now + 20 + x = N
      have hN1 : N ≤ 89 * ((i : Int) + 1) := by omega
      have hN0 : 0 ≤ N := by omega
      have HN : Hid (now < N) := hidIt (by omega)
      clear hN hx0 hx1
      obtain ⟨p, m, o, n, a⟩ := r
      have CSt : Hid (∀ (fr : Int) (W : World), Calls Try.prog 8 #[rv p m o n a, .int .i64 N, .int .i64 fr] W fun e w' => ∃ (p' m' o' n' a' : Int) (b : Bool), e = .returned (.tuple #[rv p' m' o' n' a', .bool b]) ∧ (p', m', o', n', a') = stT (p, m, o, n, a) N fr ∧ Below W.heap.size W w') := hidIt (fun fr W => (impl_Step p m o n a N fr W).mono (fun e w' ⟨h1, h2⟩ => ⟨_, _, _, _, _, _, h1, rfl, h2⟩))
      have hr3 : g3 < wr.heap.size := BXx.out.lt
      have hne3 : ¬ wr.heap.size = g3 := by omega
      have SZ : five wr.drew g3 p m o n a := five_of BXx.out.drew
      have SY : five (wr.alloc z5).drew g3 p m o n a := five_of (BXx.out.alloc z5).drew
      have HBz : Hid (Below w.heap.size w (wr.alloc z5)) := hidIt (HBx.out.alloc HBx.out.size _)
      have KZ : Hid (Below wr.heap.size wr (wr.alloc z5)) := hidIt ((Below.refl _ wr).alloc (Nat.le_refl _) _)
      have BZ : Hid (Bo.Box (wr.alloc z5) wr.heap.size #[.int .i64 0, .int .i64 0, .int .i64 0, .int .i64 0, .int .i64 0]) := hidIt (Bo.Box.new wr _ _)
      have w50 : IntKind.i64.wrap (50 + (i : Int)) = 50 + (i : Int) := by rw [IntKind.wrap_i64]; omega
      go_cut [11, 12] from 53 to 83 (fun s11 s12 wq => ∃ (g11 : Nat) (p' m' o' n' a' fr : Int) (b : Bool), s11 = .pointer (some ⟨g11, 0, none⟩) ∧ s12 = .bool b ∧ Hid ((p', m', o', n', a') = stT (p, m, o, n, a) N fr) ∧ Hid (¬ g11 = g3) ∧ Hid (Bo.Box wq g11 #[.int .i64 p', .int .i64 m', .int .i64 o', .int .i64 n', .int .i64 a']) ∧ Hid (Below wr.heap.size wr wq))
      case first =>
        go_region_held3 (fun w' => five w' g3 p m o n a)
          (first | (with_reducible assumption) | (trace_state; fail))
          (first
          | (go_at_call 6; refine (CP.out _ (by first | exact HBx.out.drew | exact HBz.out.drew) (50 + (i : Int)) 2548 (by omega) (by omega) (by decide)).mono ?_; rintro e wA ⟨x2, z0, z1, rfl, rfl⟩; have w51 : IntKind.i64.wrap (1 + x2) = 1 + x2 := (by rw [IntKind.wrap_i64]; omega))
          | (go_at_call 8; refine (CSt.out _ _).mono ?_; rintro e wB ⟨p', m', o', n', a', b, rfl, hst, kB⟩; have BXB := hidIt (BXx.out.drew.kept kB); have KB := hidIt ((Below.refl wr.heap.size wr).drew.trans kB); have SB : five wB g3 p m o n a := five_of BXB.out; have SC : five (wB.alloc z5) g3 p m o n a := five_of (BXB.out.alloc _); have SD : five (wB.alloc (.cells #[.int .i64 p', .int .i64 m', .int .i64 o', .int .i64 n', .int .i64 a'] 25)) g3 p m o n a := five_of (BXB.out.alloc _))
          | (go_at_call 8; refine (CSt.out _ _).mono ?_; rintro e wB ⟨p', m', o', n', a', b, rfl, hst, kB⟩; have BXB := hidIt ((BXx.out.alloc z5).drew.kept kB); have BZB := hidIt (BZ.out.drew.kept kB); have KB := hidIt (KZ.out.drew.trans (kB.mono KZ.out.size)); have SB : five wB g3 p m o n a := five_of BXB.out; have SD : five (put5 wB wr.heap.size p' m' o' n' a') g3 p m o n a := five_of (put5_other BXB.out hne3); have zc0 := BZB.out.c 0 (v := .int .i64 0) rfl; have zc1 := BZB.out.c 1 (v := .int .i64 0) rfl; have zc2 := BZB.out.c 2 (v := .int .i64 0) rfl; have zc3 := BZB.out.c 3 (v := .int .i64 0) rfl; have zc4 := BZB.out.c 4 (v := .int .i64 0) rfl; have zf0 := BZB.out.fr 0; have zf1 := BZB.out.fr 1; have zf2 := BZB.out.fr 2; have zf3 := BZB.out.fr 3; have zf4 := BZB.out.fr 4))
        all_goals
          go_wp2_with (fail)
          go_meet
          case rel => first
            | exact ⟨_, p', m', o', n', a', _, b, rfl, rfl, hidIt hst, hidIt (by have := KB.out.size; omega), hidIt (Bo.Box.new wB _ _), hidIt (KB.out.alloc KB.out.size _)⟩
            | exact ⟨_, p', m', o', n', a', _, b, rfl, rfl, hidIt hst, hidIt hne3, hidIt (put5_box BZB.out), hidIt (put5_below KB.out (Nat.le_refl _))⟩
      case rest =>
        obtain ⟨g11, p', m', o', n', a', fr, b, rfl, rfl, HST, hne, BX11, HQ⟩ := hcut
        have BXc := hidIt (BXx.out.kept HQ.out)
        have c0 := BX11.out.c 0 (v := .int .i64 p') rfl
        have c1 := BX11.out.c 1 (v := .int .i64 m') rfl
        have c2 := BX11.out.c 2 (v := .int .i64 o') rfl
        have c3 := BX11.out.c 3 (v := .int .i64 n') rfl
        have c4 := BX11.out.c 4 (v := .int .i64 a') rfl
        have d0 := BXc.out.c 0 (v := .int .i64 p) rfl
        have d1 := BXc.out.c 1 (v := .int .i64 m) rfl
        have d2 := BXc.out.c 2 (v := .int .i64 o) rfl
        have d3 := BXc.out.c 3 (v := .int .i64 n) rfl
        have d4 := BXc.out.c 4 (v := .int .i64 a) rfl
        have f0 := BXc.out.fr 0
        have f1 := BXc.out.fr 1
        have f2 := BXc.out.fr 2
        have f3 := BXc.out.fr 3
        have f4 := BXc.out.fr 4
        go_upto_region 16 with fail
        generalize hW1 : ((((wc.setCell ⟨g3, 0, none⟩ (.int .i64 p')).setCell ⟨g3, 1, none⟩ (.int .i64 m')).setCell ⟨g3, 2, none⟩ (.int .i64 o')).setCell ⟨g3, 3, none⟩ (.int .i64 n')).setCell ⟨g3, 4, none⟩ (.int .i64 a') = W1
        clear c0 c1 c2 c3 c4 d0 d1 d2 d3 d4 f0 f1 f2 f3 f4
        have HK := hidIt hW1
        clear hW1
        have BX1 : Hid (Bo.Box W1 g3 #[.int .i64 p', .int .i64 m', .int .i64 o', .int .i64 n', .int .i64 a']) := hidIt (by rw [← HK.out]; exact put5_box BXc.out)
        have Y1 : Hid (Only g3 wc W1) := hidIt (by rw [← HK.out]; exact put5_only wc g3 p' m' o' n' a')
        have hT1 : Hid (Iv.Own W1 bb u7 (L.map Prod.fst)) := hidIt ((HTx.out.kept HQ.out).only Y1.out (.inl hlt3))
        have hR1 : Hid (Rl.Own W1 bb u8 (L.map Prod.snd)) := hidIt ((HRx.out.kept HQ.out).only Y1.out hlt3)
        have HB1 : Hid (Below w.heap.size w W1) := hidIt ((HBx.out.trans (HQ.out.mono HBx.out.size)).trans (Y1.out.below hg3.out (Nat.le_trans HBx.out.size HQ.out.size)))
        have hb1 : bb ≤ W1.heap.size := Nat.le_trans (Nat.le_trans hbx.out HQ.out.size) Y1.out.size
        have lT : (L.map Prod.fst).length = i := by rw [List.length_map]; exact HL.out
        have lR : (L.map Prod.snd).length = i := by rw [List.length_map]; exact HL.out
        clear HK Y1 BXc BX11 HQ BXx HBx hbx HTx HRx HBz KZ BZ SZ SY CSt
        generalize hTL : L.map Prod.fst = TL at hT1 lT
        generalize hRL : L.map Prod.snd = RL at hR1 lR
        have HTL := hidIt hTL
        have HRL := hidIt hRL
        have LT := hidIt lT
        have LR := hidIt lR
        clear hTL hRL lT lR
        go_wp2_with (first | (at_builtin; refine wpList_append_own _ rfl _ _ 29 rfl bb 2 j0 (.int .i64 0) 1 8 Try.underlying29 hj0 hk0 hk1 hk2 rfl (by decide) _ _ _ rfl (World.ownsRow.alloc hT1.out (.cells #[.int .i64 N] 2)) ⟨W1.heap.size, 0, none⟩ 1 1 [.int .i64 N] rfl rfl (fresh1 W1 N 2) (one1 N) ?c3 ?c4 ?c5 ?_))
        case c3 => have := LT.out; unfold maxLen; omega
        case c4 => have := LT.out; omega
        case c5 => simp; omega
        intro v' w9 hown hgrow _
        have HT9 := hidIt (Iv.Own.more (L := TL) (s := N) hown)
        have kk := Iv.grown_below (Iv.Own.alloc hT1.out (.cells #[.int .i64 N] 2)) hgrow (B := bb) (Nat.le_refl _) (by simp; omega)
        have BX9 := hidIt (box_keptB (BX1.out.alloc (.cells #[.int .i64 N] 2)) kk hlt3)
        have HR9 : Hid (Rl.Own w9 bb u8 RL) := hidIt (World.ownsRow.kept (hR1.out.alloc (.cells #[.int .i64 N] 2)) hgrow (own_apart (hR1.out.alloc (.cells #[.int .i64 N] 2)) (Iv.Own.alloc hT1.out (.cells #[.int .i64 N] 2)) (by decide)))
        have HB9 := hidIt ((HB1.out.alloc HB1.out.size (.cells #[.int .i64 N] 2)).trans (kk.mono hgw.out))
        have hb9 : bb ≤ w9.heap.size := by have := kk.size; simp at this; omega
        clear hown hgrow kk hT1 hR1 HB1 BX1 hb1
        have d0 := BX9.out.c 0 (v := .int .i64 p') rfl
        have d1 := BX9.out.c 1 (v := .int .i64 m') rfl
        have d2 := BX9.out.c 2 (v := .int .i64 o') rfl
        have d3 := BX9.out.c 3 (v := .int .i64 n') rfl
        have d4 := BX9.out.c 4 (v := .int .i64 a') rfl
        go_wp2_with (first | (at_builtin; refine wpList_append_own _ rfl _ _ 30 rfl bb 25 i0 (.agg #[.int .i64 0, .int .i64 0, .int .i64 0, .int .i64 0, .int .i64 0]) 5 40 Try.underlying30 hi0 hz0 hz1 hz2 rfl (by decide) _ _ _ rfl (World.ownsRow.alloc HR9.out (.cells #[.int .i64 p', .int .i64 m', .int .i64 o', .int .i64 n', .int .i64 a'] 25)) ⟨w9.heap.size, 0, none⟩ 1 1 (Rl.rcells [(p', m', o', n', a')]) rfl rfl (Rl.fresh5 w9 p' m' o' n' a' 25) (Rl.rcells_one _) ?c3 ?c4 ?c5 ?_))
        case c3 => have := LR.out; unfold maxLen; omega
        case c4 => have := LR.out; omega
        case c5 => simp; omega
        intro v2 w10 hown hgrow _
        have HR10 := hidIt (Rl.Own.more (L := RL) (x := (p', m', o', n', a')) hown)
        have kk : Below bb (w9.alloc (.cells #[.int .i64 p', .int .i64 m', .int .i64 o', .int .i64 n', .int .i64 a'] 25)) w10 := ⟨hgrow.os, hgrow.tape, hgrow.output, hgrow.size, fun k hk => hgrow.block k (by simp; omega) (fun e => by have := (World.ownsRow.lt HR9.out k e.symm).1; omega)⟩
        have BX10 := hidIt (box_keptB (BX9.out.alloc (.cells #[.int .i64 p', .int .i64 m', .int .i64 o', .int .i64 n', .int .i64 a'] 25)) kk hlt3)
        have HT10 : Hid (Iv.Own w10 bb v' (TL ++ [N])) := hidIt (World.ownsRow.kept (HT9.out.alloc (.cells #[.int .i64 p', .int .i64 m', .int .i64 o', .int .i64 n', .int .i64 a'] 25)) hgrow (own_apart (HT9.out.alloc (.cells #[.int .i64 p', .int .i64 m', .int .i64 o', .int .i64 n', .int .i64 a'] 25)) (Rl.Own.alloc HR9.out (.cells #[.int .i64 p', .int .i64 m', .int .i64 o', .int .i64 n', .int .i64 a'] 25)) (by decide)))
        have HB10 := hidIt ((HB9.out.alloc HB9.out.size (.cells #[.int .i64 p', .int .i64 m', .int .i64 o', .int .i64 n', .int .i64 a'] 25)).trans (kk.mono hgw.out))
        have hb10 : Hid (bb ≤ w10.heap.size) := hidIt (by have := kk.size; simp at this; omega)
        clear hown hgrow kk d0 d1 d2 d3 d4 HR9 HT9 HB9 BX9 hb9
        go_wp2_with (fail)
        refine ⟨⟨i + 1, N, L ++ [(N, (p', m', o', n', a'))], (p', m', o', n', a'), by simp, by omega, rfl, by omega, by omega, hidIt (by rw [List.length_append, HL.out]; rfl), hidIt (fun x hx => by rcases List.mem_append.1 hx with h | h; exact HP.out x h; simp only [List.mem_singleton] at h; subst h; exact hN0), hidIt (by rw [HST.out]; exact HI.out.step HN.out), hidIt (by rw [List.map_append, HTL.out]; exact HT10.out), hidIt (by rw [List.map_append, HRL.out]; exact HR10.out), BX10, HB10, hb10⟩, by simp [intOf]; omega⟩
    · have hin' : ¬ (i : Int) < 24 := by omega
      have e24 : i = 24 := by omega
      subst e24
      clear CP HOK hbx BXx hin hi
      obtain ⟨a7, cap7, e7, _, _, hr7, _⟩ := HTx.out.form
      obtain ⟨a8, cap8, e8, _, _, hr8, _⟩ := HRx.out.form
      rw [List.length_map, HL.out] at e7 e8
      subst e7 e8
      have R7 := hidIt hr7
      have R8 := hidIt hr8
      clear hr7 hr8 HTx HRx
      have hT : Hid (∀ j, j < 24 → ∃ x, x ∈ L ∧ Iv.iat (L.map Prod.fst) j = x.1 ∧ Rl.rat (L.map Prod.snd) j = x.2) := hidIt (fun j hj => ⟨L[j]'(by rw [HL.out]; exact hj), List.getElem_mem _, by rw [Iv.iat_at (by rw [List.length_map, HL.out]; exact hj), List.getElem_map], by rw [Rl.rat_at (by rw [List.length_map, HL.out]; exact hj), List.getElem_map]⟩)
      have lT : Hid ((L.map Prod.fst).length = 24) := hidIt (by rw [List.length_map]; exact HL.out)
      have lR : Hid ((L.map Prod.snd).length = 24) := hidIt (by rw [List.length_map]; exact HL.out)
      have hle : Hid (∀ x ∈ L, 0 ≤ x.1 ∧ x.1 ≤ 3000) := hidIt (fun x hx => ⟨HP.out x hx, by have := HI.out.le x hx; omega⟩)
      have hok : Hid (∀ x ∈ L, okT x.2 = true) := hidIt HI.out.ok
      have hpair : Hid (∀ x ∈ L, ∀ y ∈ L, x.1 - y.1 ≤ 100 → -100 ≤ x.1 - y.1 → sgT x.2 ∈ scT y.2) := hidIt HI.out.pair
      clear HI HP HL
      generalize L.map Prod.fst = TL at *
      generalize L.map Prod.snd = RL at *
      generalize wr = W0 at *
      go_wp2_with (fail)
      go_loopw [13] (fun v13 wx => ∃ i : Nat, v13 = .int .i64 i ∧ i ≤ 24 ∧ Hid (Below W0.heap.size W0 wx)) (fun y _ => (24 - intOf y).toNat)
      case atStart => exact ⟨0, rfl, by omega, hidIt (Below.refl _ _)⟩
      case round =>
        obtain ⟨i, rfl, hi, HW⟩ := hrel
        generalize wr = W1 at *
        by_cases hin : i < 24
        · have g2 : (i : Int) < 24 := by omega
          obtain ⟨xi, hxi, et, er⟩ := hT.out i hin
          obtain ⟨ti, p, m, o, n, a⟩ := xi
          obtain ⟨b8, off8, e8, c0, c1, c2, c3, c4⟩ := (R8.out.kept HW.out).five (i := i) (by rw [lR.out]; exact hin)
          rw [er] at c0 c1 c2 c3 c4
          simp only at c0 c1 c2 c3 c4
          have hs : secB (sgT (p, m, o, n, a)) = true := sec_all (sg_in (hok.out _ hxi))
          have CSg := hidIt (fun W => impl_Signing p m o n a W)
          have CK := hidIt (fun W => impl_KeyOf_sec _ hs W)
          have HPi : Hid (∀ y ∈ L, ti - y.1 ≤ 100 → -100 ≤ ti - y.1 → keyI (sgT (p, m, o, n, a)) ∈ (scT y.2).map keyI) := hidIt (fun y hy h1 h2 => List.mem_map.2 ⟨_, hpair.out _ hxi y hy h1 h2, rfl⟩)
          have eS : signR p m o n a = sgT (p, m, o, n, a) := rfl
          rw [eS] at CSg
          clear eS hs er
          generalize sgT (p, m, o, n, a) = s at CSg CK HPi
          generalize keyI s = q at CK HPi
          obtain ⟨qx, qy⟩ := q
          subst e8
          go_wp2_with (fail)
          refine (CSg.out _).mono ?_
          rintro e w1 ⟨rfl, k1⟩
          replace HW := hidIt (HW.out.trans (k1.mono HW.out.size))
          clear k1 c0 c1 c2 c3 c4
          go_wp2_with (fail)
          refine (CK.out _).mono ?_
          rintro e w2 ⟨rfl, k2⟩
          replace HW := hidIt ((HW.out.trans (k2.mono HW.out.size)).alloc (Nat.le_trans HW.out.size k2.size) (.cells #[.int .i64 qx, .int .i64 qy] 33))
          have BQ := hidIt (Bo.Box.new w2 #[.int .i64 qx, .int .i64 qy] 33)
          clear k2 CSg CK
          go_upto_region 24 with fail
          generalize hWA : w2.alloc (.cells #[.int .i64 qx, .int .i64 qy] 33) = WA at HW BQ ⊢
          generalize w2.heap.size = g14 at *
          clear hWA
          have hbi := hle.out _ hxi
          obtain ⟨ti0, ti1⟩ := hbi
          simp only at ti0 ti1
          go_wp2_with (fail)
          go_hide hQ3
          go_loopw [16] (fun v16 wx => ∃ k : Nat, v16 = .int .i64 k ∧ k ≤ 24 ∧ Hid (Below WA.heap.size WA wx)) (fun y _ => (24 - intOf y).toNat)
          case atStart => exact ⟨0, rfl, by omega, hidIt (Below.refl _ _)⟩
          case round =>
            obtain ⟨k, rfl, hk, HV⟩ := hrel
            generalize wr = W2 at *
            have HW2 := hidIt (HW.out.trans (HV.out.mono HW.out.size))
            by_cases hkn : k < 24
            · have g4 : (k : Int) < 24 := by omega
              obtain ⟨xk, hxk, ekt, ekr⟩ := hT.out k hkn
              obtain ⟨tk, p', m', o', n', a'⟩ := xk
              obtain ⟨b7, off7, e7, c0⟩ := (R7.out.kept HW2.out).cell i (by rw [lT.out]; exact hin)
              subst e7
              obtain ⟨b7', off7', e7', c1⟩ := (R7.out.kept HW2.out).cell k (by rw [lT.out]; exact hkn)
              cases e7'
              rw [et] at c0
              rw [ekt] at c1
              simp only at c0 c1
              obtain ⟨tk0, tk1⟩ := hle.out _ hxk
              simp only at tk0 tk1
              have wd : IntKind.i64.wrap (ti - tk) = ti - tk := by rw [IntKind.wrap_i64]; omega
              have HV' := hidIt (fun j => Go.Proofs.Ytlmpalkjagekjaa.Below.drewN HV.out j)
              have HW' := hidIt (fun j => Go.Proofs.Ytlmpalkjagekjaa.Below.drewN HW2.out j)
              go_wp2_with (fail)
              go_quiet (fail)
              have HV1 := hidIt (HV'.out nq)
              have HW1 := hidIt (HW'.out nq)
              generalize W2.drewN nq = W3 at HV1 HW1 ⊢
              clear HV' HW' HV HW2 c0 c1 wd
              by_cases hd1 : 100 < ti - tk
              · go_wp2_with (fail)
                exact ⟨⟨k + 1, by simp, by omega, HV1⟩, by simp [intOf]; omega⟩
              · by_cases hd2 : ti - tk < -100
                · go_wp2_with (fail)
                  exact ⟨⟨k + 1, by simp, by omega, HV1⟩, by simp [intOf]; omega⟩
                · have HM := hidIt (HPi.out _ hxk (by simp only; omega) (by simp only; omega))
                  obtain ⟨b8', off8', e8', c0, c1, c2, c3, c4⟩ := (R8.out.kept HW1.out).five (i := k) (by rw [lR.out]; exact hkn)
                  cases e8'
                  rw [ekr] at c0 c1 c2 c3 c4
                  simp only at c0 c1 c2 c3 c4
                  have CSv := hidIt (fun W => impl_Served p' m' o' n' a' W)
                  have eS : (scT (p', m', o', n', a')).map keyI = serR p' m' o' n' a' := rfl
                  rw [eS] at HM
                  have hSl : (serR p' m' o' n' a').length ≤ 3 := by rw [ser_length]; exact sec_length _ _ _ _ _
                  clear eS ekr ekt
                  generalize serR p' m' o' n' a' = S at CSv HM hSl
                  go_wp2_with (fail)
                  refine (CSv.out _).mono ?_
                  rintro e w4 ⟨v19, rfl, o4, k4⟩
                  have HV4 := hidIt (HV1.out.trans (k4.mono HV1.out.size))
                  obtain ⟨a19, cap19, rfl, _, _, r4, _⟩ := o4.form
                  have R4 := hidIt r4
                  clear k4 o4 r4 CSv c0 c1 c2 c3 c4 HV1 HW1
                  generalize hS : S.length = sl at *
                  have HS := hidIt hS
                  clear hS
                  go_wp2_with (fail)
                  go_hide hQ4
                  go_loopw [18, 20] (fun v18 v20 wx => ∃ (j : Nat) (b : Bool), v20 = .int .i64 j ∧ v18 = .bool b ∧ j ≤ sl ∧ Hid (b = decide ((qx, qy) ∈ S.take j)) ∧ Hid (Below w4.heap.size w4 wx)) (fun _ y _ => (sl - intOf y).toNat)
                  case atStart => exact ⟨0, false, rfl, rfl, by omega, hidIt (by simp), hidIt (Below.refl _ _)⟩
                  case round =>
                    obtain ⟨j, b, rfl, rfl, hj, HBJ, HJ⟩ := hrel
                    generalize wr = W5 at *
                    by_cases hjn : j < sl
                    · have g6 : (j : Int) < (sl : Int) := by omega
                      have hTk := hidIt (take_lat (L := S) (i := j) (by rw [HS.out]; exact hjn))
                      have HJ' := hidIt (fun x => Go.Proofs.Ytlmpalkjagekjaa.Below.drewN HJ.out x)
                      have BQ5 := hidIt ((BQ.out.kept HV4.out).kept HJ.out)
                      have q0 := BQ5.out.c 0 (v := .int .i64 qx) rfl
                      have q1 := BQ5.out.c 1 (v := .int .i64 qy) rfl
                      obtain ⟨b19, off19, rfl, c0, c1⟩ := (R4.out.kept HJ.out).cell j (by rw [HS.out]; exact hjn)
                      generalize Pt.lat S j = y at c0 c1 hTk
                      obtain ⟨yx, yy⟩ := y
                      simp only at c0 c1
                      cases b with
                      | true =>
                        have HBJ' : Hid (true = decide ((qx, qy) ∈ S.take (j + 1))) := hidIt (by rw [hTk.out]; have := HBJ.out; simp at this; simp [this])
                        go_wp2_with (fail)
                        go_quiet (fail)
                        go_wp2_with (fail)
                        exact ⟨⟨j + 1, true, by simp, rfl, by omega, HBJ', hidIt (HJ'.out _)⟩, by simp [intOf]; omega⟩
                      | false =>
                        by_cases e1 : yx = qx
                        · subst e1
                          by_cases e2 : yy = qy
                          · subst e2
                            have HBJ' : Hid (true = decide ((yx, yy) ∈ S.take (j + 1))) := hidIt (by rw [hTk.out]; simp)
                            have e3 : (yx == yx) = true := by simp
                            have e4 : (yy == yy) = true := by simp
                            go_wp2_with (fail)
                            go_quiet (fail)
                            go_wp2_with (fail)
                            exact ⟨⟨j + 1, true, by simp, rfl, by omega, HBJ', hidIt (HJ'.out _)⟩, by simp [intOf]; omega⟩
                          · have HBJ' : Hid (false = decide ((yx, qy) ∈ S.take (j + 1))) := hidIt (by rw [hTk.out]; have := HBJ.out; simp at this; simp [this]; intro h; exact e2 h.symm)
                            have e3 : (yx == yx) = true := by simp
                            have e4 : (yy == qy) = false := by simpa using e2
                            clear e2
                            go_wp2_with (fail)
                            go_quiet (fail)
                            go_wp2_with (fail)
                            exact ⟨⟨j + 1, false, by simp, rfl, by omega, HBJ', hidIt (HJ'.out _)⟩, by simp [intOf]; omega⟩
                        · have HBJ' : Hid (false = decide ((qx, qy) ∈ S.take (j + 1))) := hidIt (by rw [hTk.out]; have := HBJ.out; simp at this; simp [this]; intro h; exact absurd h.symm e1)
                          have e4 : (yx == qx) = false := by simpa using e1
                          clear e1
                          go_wp2_with (fail)
                          go_quiet (fail)
                          go_wp2_with (fail)
                          exact ⟨⟨j + 1, false, by simp, rfl, by omega, HBJ', hidIt (HJ'.out _)⟩, by simp [intOf]; omega⟩
                    · have g6 : ¬ (j : Int) < (sl : Int) := by omega
                      have eb : b = true := by
                        rw [HBJ.out, List.take_of_length_le (by rw [HS.out]; omega)]
                        exact decide_eq_true HM.out
                      subst eb
                      go_wp2_with (fail)
                      subst hQ4
                      go_wp2_with (fail)
                      exact ⟨⟨k + 1, by simp, by omega, hidIt (HV4.out.trans (HJ.out.mono HV4.out.size))⟩, by simp [intOf]; omega⟩
            · have g4 : ¬ (k : Int) < 24 := by omega
              go_wp2_with (fail)
              subst hQ3
              go_wp2_with (fail)
              exact ⟨⟨i + 1, by simp, by omega, HW2⟩, by simp [intOf]; omega⟩
        · have g2 : ¬ (i : Int) < 24 := by omega
          go_wp2_with (fail)
          go_ret
          exact ⟨rfl, HBx.out.trans (HW.out.mono HBx.out.size)⟩

set_option maxRecDepth 100000 in
theorem lifted (os : Os) (started : os.Started) (H : Type) (enc : TypeId × Value → H) :
    ReturnsInHanded {} Try.checked os 3 .any (Rows.fnPrepublishedSpec.pre6 enc Try.prog Try.f3 Rows.fnPrepublishedRow.domain false) (Rows.fnPrepublishedSpec.post enc Try.prog Try.f3 false true false false) := by
  refine returnsInHanded_of_change (C := Try.checked) own started (by kernel_rfl) Try.func3
    (ChangeSpec.witness6 (enc := enc) (C := Try.checked) false ⟨#[], #[.slice none 0 0], []⟩ 8 (by kernel_rfl) (by kernel_rfl) (by kernel_rfl) (by kernel_rfl)) ?_
  intro W base args ds gs before hval0 hW hcnd _
  have hval : ∀ (j : Nat) t v, Try.f3.params[j]? = some t → args[j]? = some v → Value.okWide Try.prog W .any base t v := hval0
  have hW' := hW
  obtain ⟨p, q, hA0, hV, rfl, hfz, hnd⟩ := hW
  have hA : DataW.TrodAll enc Try.prog W 0 (fun _ => true) true Try.f3.params.toList args.toList ds p := hA0
  rw [Try.params3] at hA hval
  obtain ⟨v0, vs0, d0, ds0, p0, q0, hargs, rfl, rfl, h0, r0⟩ := trodAll_cons hA
  obtain ⟨rfl, rfl, rfl⟩ := trodAll_nil r0
  obtain rfl : args = #[v0] := by cases args; simp_all
  obtain ⟨rfl, rfl⟩ := trodVars_none hV
  have k0 := h0
  have lt0 : ∀ x ∈ p0, x.block < W.heap.size := by obtain ⟨m, hm⟩ := k0; exact DataW.trod_lt m _ _ _ hm
  obtain ⟨a0, len0, cap0, rfl⟩ := okWide_slice Try.underlying22 (hval 0 22 v0 rfl rfl)
  obtain ⟨z0, w0⟩ : ∃ zs, IsRow .u8 W a0 len0 cap0 zs := by
    obtain ⟨fuel, hf⟩ := h0
    rcases open_ints Try.underlying22 Try.underlying5 (by kernel_rfl) hf with ⟨hcs, _⟩ | ⟨x, l, c, zs, hcs, _, hl, hm, hz, _, hcell, hwz⟩
    · simp [Value.cells] at hcs
      obtain ⟨rfl, rfl, rfl⟩ := hcs
      exact ⟨[], .inl ⟨rfl, rfl, rfl, rfl⟩⟩
    · simp [Value.cells] at hcs
      obtain ⟨rfl, rfl, rfl⟩ := hcs
      exact ⟨zs, .inr ⟨_, rfl, hl, hm, by simpa using hz, hcell, hwz⟩⟩
  clear hA0 hval0
  refine (walk a0 len0 cap0 z0 W w0).mono fun e W' ⟨he, bel⟩ => ?_
  subst he
  exact ⟨_, rfl, _, _, _, [], _, [], hW', trodAll_mk1 (shut_bool Try.underlying4 _), (trodAll_cons_mk (Below.trod laidOut (by kernel_rfl) (of_decide_eq_true (by kernel_rfl)) k0 bel lt0) trodAll_mk0), rfl, bel.frame _, fun h => by cases h⟩

theorem over : Rows.fnPrepublishedRow.holds Try.pinned (OpenSpec.ofChange Rows.fnPrepublishedSpec) :=
  OpenClaim.holds_of_wide 3 Try.f3 rfl rfl rfl rfl rfl rfl rfl ⟨rfl, rfl, rfl, rfl, rfl⟩ rfl rfl rfl rfl rfl (by kernel_rfl) Try.func3 (by kernel_rfl)
    (of_decide_eq_true (by kernel_rfl)) (by unfold Func.isWrapper; first | (rw [if_pos (by decide +kernel)]; kernel_rfl) | (rw [if_neg (by decide +kernel)]; exact ⟨rfl, rfl⟩))
    (fun os started H enc _ => lifted os started H enc)
end Go.Proofs.Ytlmpalkjagekjaa.fnPrepublished
namespace Go.Proofs.Ytlmpalkjagekjaa
theorem fnPrepublished_holds : Rows.FnPrepublishedSaid := fnPrepublished.over
#print axioms fnPrepublished_holds
end Go.Proofs.Ytlmpalkjagekjaa
