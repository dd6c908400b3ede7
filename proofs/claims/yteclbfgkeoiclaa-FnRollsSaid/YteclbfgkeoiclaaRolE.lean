/-
  DrawRollOk, DrawServed, DrawNewRoll, DrawStep: some Rolls and some numbers; they turn nothing that was.
-/
import Derived.Test.YteclbfgkeoiclaaRolD
namespace Go.Proofs.Yteclbfgkeoiclaa.Ro
open Go.ChangeShapes Go.WideShapes Go.ChangeAt Go.RowKit
open Dr
set_option linter.unusedVariables false
abbrev zR : Obj := .cells #[.int .i64 0, .int .i64 0, .int .i64 0, .int .i64 0, .int .i64 0] 25
theorem code_new {w : World} {a : Option Addr} {len : Nat} (h : Dr.Code w.heap.size w a len) (o : Obj) : Dr.Code (w.alloc o).heap.size (w.alloc o) a len := h.kept ((Below.refl _ w).alloc (Nat.le_refl _) o)
set_option maxRecDepth 100000 in
set_option maxHeartbeats 4000000 in
theorem DrawRollOk_any (a : Option Addr) (len cap : Nat) (w : World) (hc : Dr.Code w.heap.size w a len) (hl : len ≤ 4096) :
    Calls Try.prog 31 #[.slice a len cap] w fun e w' => ∃ p m o n t : Int, e = .returned (rv p m o n t) ∧ Below w.heap.size w w' := by
  have HC := hidIt (code_new hc zR)
  have BA := hidIt (Bo.Box.new w (i5 0 0 0 0 0) 25)
  have HB := hidIt ((Below.refl w.heap.size w).alloc (Nat.le_refl _) zR)
  clear hc
  go_enter Try.func31, Try.ntmps31
  go_wp2_with (fail)
  refine (l1New_any _ a len cap _ (Nat.le_refl _) HC.out hl).mono ?_
  rintro e w1 ⟨c, rfl, hC1, k1⟩
  have hh : w.heap.size < c := by have := hC1.here; simp at this; omega
  have na : ¬ w.heap.size = c := by omega
  have C1 := hidIt hC1
  replace BA := hidIt (BA.out.kept k1)
  replace HB := hidIt (HB.out.trans (k1.mono HB.out.size))
  clear hC1 k1
  go_wp2_with (fail)
  refine (l10Draw_any _ c a len cap _ C1.out).mono ?_
  rintro e w2 ⟨p, m, o, n, t, rfl, hC2, hO2⟩
  replace BA := hidIt (box_oth BA.out hO2 na)
  replace HB := hidIt (HB.out.trans (hO2.below (B := w.heap.size) (by omega) HB.out.size))
  clear hC2 hO2
  have e0 := BA.out.c 0 (v := .int .i64 0) rfl
  have e1 := BA.out.c 1 (v := .int .i64 0) rfl
  have e2 := BA.out.c 2 (v := .int .i64 0) rfl
  have e3 := BA.out.c 3 (v := .int .i64 0) rfl
  have e4 := BA.out.c 4 (v := .int .i64 0) rfl
  have f0 := BA.out.fr 0
  have f1 := BA.out.fr 1
  have f2 := BA.out.fr 2
  have f3 := BA.out.fr 3
  have f4 := BA.out.fr 4
  go_wp2_with (fail)
  have oE := pu5_only w2 w.heap.size p m o n t
  have BZ := pu5_box (p := p) (m := m) (o := o) (n := n) (a := t) BA.out
  refine bodyPost_ret (v := rv p m o n t) ?_ rfl ⟨p, m, o, n, t, rfl, HB.out.trans (oE.below (B := w.heap.size) (Nat.le_refl _) HB.out.size)⟩
  refine box_res BZ (fun w9 j => ?_)
  have j0 := j.c 0 (v := .int .i64 p) rfl
  have j1 := j.c 1 (v := .int .i64 m) rfl
  have j2 := j.c 2 (v := .int .i64 o) rfl
  have j3 := j.c 3 (v := .int .i64 n) rfl
  have j4 := j.c 4 (v := .int .i64 t) rfl
  clear BZ oE e0 e1 e2 e3 e4 f0 f1 f2 f3 f4
  simp [results, Try.results31, go_sem, j0, j1, j2, j3, j4]
set_option maxRecDepth 100000 in
set_option maxHeartbeats 4000000 in
theorem DrawServed_any (a : Option Addr) (len cap : Nat) (w : World) (hc : Dr.Code w.heap.size w a len) (hl : len ≤ 4096) :
    Calls Try.prog 9 #[.slice a len cap] w fun e w' => ∃ p m o n t : Int, e = .returned (rv p m o n t) ∧ Below w.heap.size w w' := by
  have HC := hidIt (code_new hc zR)
  have BA := hidIt (Bo.Box.new w (i5 0 0 0 0 0) 25)
  have HB := hidIt ((Below.refl w.heap.size w).alloc (Nat.le_refl _) zR)
  clear hc
  go_enter Try.func9, Try.ntmps9
  go_wp2_with (fail)
  refine (DrawRollOk_any a len cap _ HC.out hl).mono ?_
  rintro e w2 ⟨p, m, o, n, t, rfl, k1⟩
  replace BA := hidIt (BA.out.kept k1)
  replace HB := hidIt (HB.out.trans (k1.mono HB.out.size))
  clear k1
  have e0 := BA.out.c 0 (v := .int .i64 0) rfl
  have e1 := BA.out.c 1 (v := .int .i64 0) rfl
  have e2 := BA.out.c 2 (v := .int .i64 0) rfl
  have e3 := BA.out.c 3 (v := .int .i64 0) rfl
  have e4 := BA.out.c 4 (v := .int .i64 0) rfl
  have f0 := BA.out.fr 0
  have f1 := BA.out.fr 1
  have f2 := BA.out.fr 2
  have f3 := BA.out.fr 3
  have f4 := BA.out.fr 4
  go_wp2_with (fail)
  have oE := pu5_only w2 w.heap.size p m o n t
  have BZ := pu5_box (p := p) (m := m) (o := o) (n := n) (a := t) BA.out
  refine bodyPost_ret (v := rv p m o n t) ?_ rfl ⟨p, m, o, n, t, rfl, HB.out.trans (oE.below (B := w.heap.size) (Nat.le_refl _) HB.out.size)⟩
  refine box_res BZ (fun w9 j => ?_)
  have j0 := j.c 0 (v := .int .i64 p) rfl
  have j1 := j.c 1 (v := .int .i64 m) rfl
  have j2 := j.c 2 (v := .int .i64 o) rfl
  have j3 := j.c 3 (v := .int .i64 n) rfl
  have j4 := j.c 4 (v := .int .i64 t) rfl
  clear BZ oE e0 e1 e2 e3 e4 f0 f1 f2 f3 f4
  simp [results, Try.results9, go_sem, j0, j1, j2, j3, j4]
set_option maxRecDepth 100000 in
set_option maxHeartbeats 4000000 in
theorem DrawNewRoll_any (a : Option Addr) (len cap : Nat) (w : World) (hc : Dr.Code w.heap.size w a len) (hl : len ≤ 4096) :
    Calls Try.prog 7 #[.slice a len cap] w fun e w' => ∃ x y z : Int, e = .returned (.tuple #[.int .i64 x, .int .i64 y, .int .i64 z]) ∧ Below w.heap.size w w' := by
  have HC := hidIt hc
  clear hc
  go_enter Try.func7, Try.ntmps7
  go_wp2_with (fail)
  refine (l1New_any _ a len cap _ (Nat.le_refl _) HC.out hl).mono ?_
  rintro e w1 ⟨c, rfl, hC1, hb1⟩
  have hh := hC1.here
  have C1 := hidIt hC1
  have B1 := hidIt hb1
  clear hC1 hb1
  go_wp2_with (fail)
  refine (l3DrawSecret_any _ c a len cap _ C1.out).mono ?_
  rintro e w2 ⟨x, rfl, hC2, hO2⟩
  have C2 := hidIt hC2
  have B2 := hidIt (B1.out.trans (hO2.below (B := w.heap.size) hh B1.out.size))
  clear hC2 hO2
  go_wp2_with (fail)
  refine (l3DrawSecret_any _ c a len cap _ C2.out).mono ?_
  rintro e w3 ⟨y, rfl, hC3, hO3⟩
  have C3 := hidIt hC3
  have B3 := hidIt (B2.out.trans (hO3.below (B := w.heap.size) hh B2.out.size))
  clear hC3 hO3
  go_wp2_with (fail)
  refine (l9DrawUntil_any _ c a len cap _ C3.out).mono ?_
  rintro e w4 ⟨u, rfl, hC4, hO4⟩
  have B4 := hidIt (B3.out.trans (hO4.below (B := w.heap.size) hh B3.out.size))
  clear hC4 hO4
  go_wp2_with (fail)
  refine bodyPost_ret (v := .tuple #[.int .i64 x, .int .i64 y, .int .i64 u]) (by simp [results, Try.results7, go_sem]) rfl ⟨x, y, u, rfl, B4.out⟩
set_option maxRecDepth 100000 in
set_option maxHeartbeats 8000000 in
theorem DrawStep_any (a : Option Addr) (len cap : Nat) (w : World) (hc : Dr.Code w.heap.size w a len) (hl : len ≤ 4096) :
    Calls Try.prog 5 #[.slice a len cap] w fun e w' => ∃ p m o n t x y : Int, e = .returned (.tuple #[rv p m o n t, .int .i64 x, .int .i64 y]) ∧ Below w.heap.size w w' := by
  have HC := hidIt (code_new hc zR)
  have BA := hidIt (Bo.Box.new w (i5 0 0 0 0 0) 25)
  have HB := hidIt ((Below.refl w.heap.size w).alloc (Nat.le_refl _) zR)
  clear hc
  go_enter Try.func5, Try.ntmps5
  go_wp2_with (fail)
  refine (l1New_any _ a len cap _ (Nat.le_refl _) HC.out hl).mono ?_
  rintro e w1 ⟨c, rfl, hC1, k1⟩
  have hh : w.heap.size < c := by have := hC1.here; simp at this; omega
  have na : ¬ w.heap.size = c := by omega
  have C1 := hidIt hC1
  replace BA := hidIt (BA.out.kept k1)
  replace HB := hidIt (HB.out.trans (k1.mono HB.out.size))
  clear hC1 k1
  go_wp2_with (fail)
  refine (l10Draw_any _ c a len cap _ C1.out).mono ?_
  rintro e w2 ⟨p, m, o, n, t, rfl, hC2, hO2⟩
  replace BA := hidIt ((box_oth BA.out hO2 na).alloc (.cells (i5 p m o n t) 25))
  replace HB := hidIt ((HB.out.trans (hO2.below (B := w.heap.size) (by omega) HB.out.size)).alloc (Nat.le_trans HB.out.size hO2.size) (.cells (i5 p m o n t) 25))
  have hlt2 := hC2.lt
  have C2 := hidIt (hC2.kept ((Below.refl (c + 1) w2).alloc (by omega) (.cells (i5 p m o n t) 25)))
  have BR := hidIt (Bo.Box.new w2 (i5 p m o n t) 25)
  have nr : ¬ w2.heap.size = c := by omega
  have hr2 : w.heap.size < w2.heap.size := by omega
  clear hC2 hO2 C1 HC
  go_upto_region 3 with fail
  generalize w2.alloc (.cells #[.int .i64 p, .int .i64 m, .int .i64 o, .int .i64 n, .int .i64 t] 25) = W1 at BA HB C2 BR ⊢
  generalize w2.heap.size = g6 at *
  have d4 := BR.out.c 4 (v := .int .i64 t) rfl
  go_wp2_with (fail)
  refine (l1Min_any _ _ _).mono ?_
  rintro e w3 ⟨z1, rfl, hz⟩
  rw [hz]
  clear hz
  go_wp2_with (fail)
  refine (l1Max_any _ _ _).mono ?_
  rintro e w3 ⟨z2, rfl, hz⟩
  rw [hz]
  clear hz d4
  go_wp2_with (fail)
  refine (l1Below_any _ c a len cap 6 _ (by decide) C2.out).mono ?_
  rintro e w4 ⟨q, q0, q1, rfl, hC, hO⟩
  replace BA := hidIt (box_oth BA.out hO na)
  replace BR := hidIt (box_oth BR.out hO nr)
  replace HB := hidIt (HB.out.trans (hO.below (B := w.heap.size) (by omega) HB.out.size))
  replace C2 := hidIt hC
  clear hC hO
  go_wp2_with (fail)
  refine (l3DrawSecret_any _ c a len cap _ C2.out).mono ?_
  rintro e w5 ⟨f, rfl, hC, hO⟩
  replace BA := hidIt (box_oth BA.out hO na)
  replace BR := hidIt (box_oth BR.out hO nr)
  replace HB := hidIt (HB.out.trans (hO.below (B := w.heap.size) (by omega) HB.out.size))
  replace C2 := hidIt hC
  clear hC hO
  generalize wrap64 (wrap64 (z2 + 98) + q) = now
  go_wp2_with (fail)
  refine (l1Once_any _ c a len cap 6 _ (by decide) C2.out).mono ?_
  rintro e w6 ⟨b, rfl, hC, hO⟩
  replace BA := hidIt (box_oth BA.out hO na)
  replace BR := hidIt (box_oth BR.out hO nr)
  replace HB := hidIt (HB.out.trans (hO.below (B := w.heap.size) (by omega) HB.out.size))
  replace C2 := hidIt hC
  clear hC hO
  go_upto_if 24 with fail
  go_cut [8] from 9 (fun s8 wq => ∃ f' : Int, s8 = .int .i64 f' ∧ Hid (Bo.Box wq w.heap.size (i5 0 0 0 0 0)) ∧ Hid (Bo.Box wq g6 (i5 p m o n t)) ∧ Hid (Below w.heap.size w wq))
  case first =>
    cases b with
    | false =>
      go_wp2_with (fail)
      go_meet
      case rel => exact ⟨f, rfl, BA, BR, HB⟩
    | true =>
      have hlt6 := C2.out.lt
      have C6 := hidIt (C2.out.drewN 1)
      have C7 := hidIt ((C2.out.kept ((Below.refl (c + 1) w6).alloc (by omega) (.cells #[.int .i64 o, .int .i64 m] 2))).drewN 1)
      have ns : ¬ w6.heap.size = c := by omega
      have s2 := BR.out.c 2 (v := .int .i64 o) rfl
      have s1 := BR.out.c 1 (v := .int .i64 m) rfl
      have HV : Hid (∀ k : Nat, k < 2 → ∃ v : Int, (#[.int .i64 o, .int .i64 m] : Array Value)[k]? = some (.int .i64 v)) := hidIt (fun k hk => by
        match k, hk with
        | 0, _ => exact ⟨o, rfl⟩
        | 1, _ => exact ⟨m, rfl⟩)
      have hB6 := HB.out.size
      go_wp2_with (fail)
      go_region_with (first
        | (go_at_call 24; refine (l1Below_any _ c a len cap 2 w6.drew (by decide) C6.out).mono ?_; rintro e wA ⟨k, k0, k1, rfl, hC, hO⟩; obtain ⟨kn, rfl⟩ := Int.eq_ofNat_of_zero_le k0; have hkn : kn < 2 := (by omega); have hkI : (kn : Int) < 2 := (by omega); obtain ⟨v, hv⟩ := HV.out kn hkn; have BAA := hidIt (box_oth BA.out.drew hO na); have BRA := hidIt (box_oth BR.out.drew hO nr); have HBA := hidIt (HB.out.drew.trans (hO.below (B := w.heap.size) (by omega) hB6)); clear hC hO; have sa2 := BRA.out.c 2 (v := .int .i64 o) rfl; have sa1 := BRA.out.c 1 (v := .int .i64 m) rfl; have hcell := (Bo.Box.new wA #[.int .i64 o, .int .i64 m] 2).c kn hv; have HVN := hidIt hv; clear hv k0 k1)
        | (go_at_call 24; refine (l1Below_any _ c a len cap 2 (w6.alloc (.cells #[.int .i64 o, .int .i64 m] 2)).drew (by decide) C7.out).mono ?_; rintro e wA ⟨k, k0, k1, rfl, hC, hO⟩; obtain ⟨kn, rfl⟩ := Int.eq_ofNat_of_zero_le k0; have hkn : kn < 2 := (by omega); have hkI : (kn : Int) < 2 := (by omega); obtain ⟨v, hv⟩ := HV.out kn hkn; have BAA := hidIt (box_oth (BA.out.alloc _).drew hO na); have BRA := hidIt (box_oth (BR.out.alloc _).drew hO nr); have HBA := hidIt ((HB.out.alloc hB6 _).drew.trans (hO.below (B := w.heap.size) (by omega) (Nat.le_trans hB6 (by simp)))); have hcell := (box_oth (Bo.Box.new w6 #[.int .i64 o, .int .i64 m] 2).drew hO ns).c kn hv; clear hC hO; have sa2 := BRA.out.c 2 (v := .int .i64 o) rfl; have sa1 := BRA.out.c 1 (v := .int .i64 m) rfl; have HVN := hidIt hv; clear hv k0 k1))
      all_goals
        go_wp2_with (fail)
        go_meet
        case rel => first
          | exact ⟨v, rfl, hidIt (BAA.out.alloc _), hidIt (BRA.out.alloc _), hidIt (HBA.out.alloc HBA.out.size _)⟩
          | exact ⟨v, rfl, BAA, BRA, HBA⟩
  case rest =>
    obtain ⟨f', rfl, BA9, BR9, HB9⟩ := hcut
    clear BA BR HB C2
    have c0 := BR9.out.c 0 (v := .int .i64 p) rfl
    have c1 := BR9.out.c 1 (v := .int .i64 m) rfl
    have c2 := BR9.out.c 2 (v := .int .i64 o) rfl
    have c3 := BR9.out.c 3 (v := .int .i64 n) rfl
    have c4 := BR9.out.c 4 (v := .int .i64 t) rfl
    have e0 := BA9.out.c 0 (v := .int .i64 0) rfl
    have e1 := BA9.out.c 1 (v := .int .i64 0) rfl
    have e2 := BA9.out.c 2 (v := .int .i64 0) rfl
    have e3 := BA9.out.c 3 (v := .int .i64 0) rfl
    have e4 := BA9.out.c 4 (v := .int .i64 0) rfl
    have f0 := BA9.out.fr 0
    have f1 := BA9.out.fr 1
    have f2 := BA9.out.fr 2
    have f3 := BA9.out.fr 3
    have f4 := BA9.out.fr 4
    go_wp2_with (fail)
    have oE := pu5_only wc w.heap.size p m o n t
    have BZ := pu5_box (p := p) (m := m) (o := o) (n := n) (a := t) BA9.out
    refine bodyPost_ret (v := .tuple #[rv p m o n t, .int .i64 now, .int .i64 f']) ?_ rfl ⟨p, m, o, n, t, now, f', rfl, HB9.out.trans (oE.below (B := w.heap.size) (Nat.le_refl _) HB9.out.size)⟩
    refine box_res BZ (fun w9 j => ?_)
    have j0 := j.c 0 (v := .int .i64 p) rfl
    have j1 := j.c 1 (v := .int .i64 m) rfl
    have j2 := j.c 2 (v := .int .i64 o) rfl
    have j3 := j.c 3 (v := .int .i64 n) rfl
    have j4 := j.c 4 (v := .int .i64 t) rfl
    clear BZ oE c0 c1 c2 c3 c4 e0 e1 e2 e3 e4 f0 f1 f2 f3 f4
    simp [results, Try.results5, go_sem, j0, j1, j2, j3, j4]
end Go.Proofs.Yteclbfgkeoiclaa.Ro
