/-
  FnRolls answers true at every slice of bytes and leaves it as it was: RollOk, NewRoll, Step, Served and Signing of the program answer as the specification's at what is drawn, a Roll goes on only behind its time, from stable over ready and moved to stable, and the key of what signs is served. No condition.
-/
import Derived.Test.YteclbfgkeoiclaaRows
import Derived.WalkKit
import Derived.ProofKit
import Derived.OpenShut
import Derived.ShutString
import Derived.ChangeOld
import Derived.Below
import Derived.Lib.SmallJoins
import Derived.Test.YteclbfgkeoiclaaRolF
import Derived.Test.YteclbfgkeoiclaaRolE
import Derived.Test.YteclbfgkeoiclaaPickF
import Derived.Deep.RegionHeld3
import Derived.Deep.Cut
import Derived.Deep.CutRange
import Derived.Laws.StructEq
namespace Go.Proofs.Yteclbfgkeoiclaa.fnRolls
open Go.ChangeShapes Go.WideShapes Go.ChangeAt Go.RowKit Go.Joins
set_option linter.unusedVariables false

theorem own : ownKnob Try.prog.godebug = none := by kernel_rfl
theorem laidOut : laidOutB Try.prog = true := by kernel_rfl
/-- A row of integers that came in: nil, or cells at an address. -/
def IsRow (k : IntKind) (w : World) (a : Option Addr) (len cap : Nat) (zs : List Int) : Prop :=
  (a = none ∧ len = 0 ∧ cap = 0 ∧ zs = []) ∨
  ∃ x, a = some x ∧ len ≤ cap ∧ cap ≤ maxLen ∧ zs.length = cap ∧ (∀ i, i < zs.length → w.cell? (x.add i) = some (.int k (zs.getD i 0))) ∧ ∀ n ∈ zs, (Lit.int k n).wf = true
open Ro
open Go.Proofs.Yteclbfgkeoiclaa.Pt (Ln)
theorem code_of {w : World} {a : Option Addr} {len cap : Nat} {zs : List Int} (h : IsRow .u8 w a len cap zs) : Dr.Code w.heap.size w a len := by
  refine ⟨fun i hi => ?_⟩
  rcases h with ⟨rfl, rfl, rfl, rfl⟩ | ⟨x, rfl, hl, hm, hz, hcell, hwz⟩
  · omega
  · have hc := hcell i (by omega)
    obtain ⟨b, off, spot⟩ := x
    have h00 := hcell 0 (by omega)
    have hspot : spot = none := by simpa [Addr.add] using World.cell?_spot h00
    subst hspot
    have hc0 : w.cell? ⟨b, off + i, none⟩ = some (.int .u8 (zs.getD i 0)) := by
      by_cases e : i = 0
      · subst e; simpa [Addr.add] using hc
      · simpa [Addr.add, e] using hc
    have hw := hwz (zs.getD i 0) (by rw [List.getD_eq_getElem?_getD, List.getElem?_eq_getElem (by omega)]; simp)
    have hb : b < w.heap.size := by
      refine Decidable.byContradiction fun hn => ?_
      have hx : w.heap[b]? = none := by simp; omega
      simp [World.cell?, hx] at hc0
    have hbd := bounds_u8 hw
    exact ⟨b, off, _, rfl, hb, hc0, hbd.1, hbd.2⟩
theorem code_at {w wi : World} {a : Option Addr} {len : Nat} (h : Dr.Code w.heap.size w a len) (k : Below w.heap.size w wi) : Dr.Code wi.heap.size wi a len :=
  ⟨fun i hi => by
    obtain ⟨b, off, x, ea, hb, hc, r⟩ := h.cell i hi
    exact ⟨b, off, x, ea, Nat.lt_of_lt_of_le hb k.size, by rw [k.cell (by simpa using hb)]; exact hc, r⟩⟩
theorem on {W a b : World} (h : Below W.heap.size W a) (k : Below a.heap.size a b) : Below W.heap.size W b := h.trans (k.mono h.size)
/-- The five cells of a Roll in a block. -/
abbrev five (w : World) (g : Nat) (p m o n a : Int) : Prop := w.cell? ⟨g, 0, none⟩ = some (.int .i64 p) ∧ w.cell? ⟨g, 1, none⟩ = some (.int .i64 m) ∧ w.cell? ⟨g, 2, none⟩ = some (.int .i64 o) ∧ w.cell? ⟨g, 3, none⟩ = some (.int .i64 n) ∧ w.cell? ⟨g, 4, none⟩ = some (.int .i64 a)
theorem five_of {w : World} {g : Nat} {p m o n a : Int} (h : Bo.Box w g (i5 p m o n a)) : five w g p m o n a := ⟨h.c 0 rfl, h.c 1 rfl, h.c 2 rfl, h.c 3 rfl, h.c 4 rfl⟩
abbrev four (w : World) (g3 g6 g14 g13 : Nat) (p m o n a p' m' o' n' a' s0 s1 s2 s3 s4 : Int) : Prop := five w g3 p m o n a ∧ five w g6 p' m' o' n' a' ∧ five w g14 p' m' o' n' a' ∧ five w g13 s0 s1 s2 s3 s4
theorem formN {w : World} {base n : Nat} {v : Value} {L : List Ln} (h : Pt.Own w base v L) (hn : L.length = n) : ∃ a cap, v = .slice a n cap ∧ Pt.Rd w a L := by
  subst hn
  obtain ⟨a, cap, e, _, _, r, _⟩ := h.form
  exact ⟨a, cap, e, r⟩
theorem take_lat {L : List Pt.Ln} {i : Nat} (h : i < L.length) : L.take (i + 1) = L.take i ++ [Pt.lat L i] := by
  rw [List.take_add_one, Pt.lat_getElem? h]
  rfl
set_option maxRecDepth 100000 in
set_option maxHeartbeats 16000000 in

theorem walk (a0 : Option Addr) (len0 cap0 : Nat) (z0 : List Int) (w : World) (w0 : IsRow .u8 w a0 len0 cap0 z0) :
    Calls Try.prog 3 #[.slice a0 len0 cap0] w fun e w' => e = .returned (.bool true) ∧ Below w.heap.size w w' := by
  have HC := hidIt (code_of w0)
  clear w0
  have cbig := Dr.big_any a0 len0 cap0
  by_cases hbig : 4096 < len0
  · rw [decide_eq_true (show (4096 : Int) < (len0 : Int) by omega)] at cbig
    have CBig := hidIt cbig
    clear cbig
    go_enter Try.func3, Try.ntmps3
    go_wp2_with (fail)
    refine (CBig.out _).mono ?_
    rintro e w1 ⟨rfl, hz⟩
    rw [hz]
    clear hz
    go_wp2_with (fail)
    go_ret
    exact ⟨rfl, Below.refl _ _⟩
  have hl : len0 ≤ 4096 := by omega
  rw [decide_eq_false (show ¬ (4096 : Int) < (len0 : Int) by omega)] at cbig
  have CBig := hidIt cbig
  clear cbig hbig
  go_enter Try.func3, Try.ntmps3
  go_wp2_with (fail)
  refine (CBig.out _).mono ?_
  rintro e w1 ⟨rfl, hz⟩
  rw [hz]
  clear hz CBig
  go_wp2_with (fail)
  refine (DrawStep_any a0 len0 cap0 _ HC.out hl).mono ?_
  rintro e w1 ⟨p, m, o, n, a, now, fr, rfl, k1⟩
  have HB := hidIt (k1.alloc k1.size (.cells (i5 p m o n a) 25))
  have B3 := hidIt (Bo.Box.new w1 (i5 p m o n a) 25)
  clear k1
  obtain ⟨⟨p', m', o', n', a'⟩, is, hst, hfa⟩ := step_facts p m o n a now fr
  have CI := hidIt (fun W => impl_Step p m o n a now fr W)
  have CS := hidIt (fun W => spec_Step p m o n a now fr W)
  rw [hst] at CI CS
  have HF := hidIt hfa
  clear hst hfa
  go_wp2_with (fail)
  refine (CI.out _).mono ?_
  rintro e w2 ⟨rfl, k2⟩
  replace HB := hidIt ((on HB.out k2).alloc (Nat.le_trans HB.out.size k2.size) (.cells (i5 p' m' o' n' a') 25))
  replace B3 := hidIt ((B3.out.kept k2).alloc (.cells (i5 p' m' o' n' a') 25))
  have B6 := hidIt (Bo.Box.new w2 (i5 p' m' o' n' a') 25)
  clear k2 CI
  generalize w1.heap.size = g3 at *
  go_upto_region 5 with fail
  generalize w2.heap.size = g6 at *
  generalize w2.alloc (.cells #[.int .i64 p', .int .i64 m', .int .i64 o', .int .i64 n', .int .i64 a'] 25) = W2 at *
  go_wp2_with (fail)
  refine (DrawNewRoll_any a0 len0 cap0 _ (code_at HC.out HB.out) hl).mono ?_
  rintro e w3 ⟨xa, xb, xt, rfl, k3⟩
  replace HB := hidIt (on HB.out k3)
  replace B3 := hidIt (B3.out.kept k3)
  replace B6 := hidIt (B6.out.kept k3)
  clear k3
  obtain ⟨⟨q0, q1, q2, q3, q4⟩, made, hnw, hna⟩ := new_facts xa xb xt
  have CI := hidIt (fun W => impl_NewRoll xa xb xt W)
  have CN := hidIt (fun W => spec_NewRoll xa xb xt W)
  rw [hnw] at CI CN
  have HN := hidIt hna
  clear hnw hna
  go_wp2_with (fail)
  refine (CI.out _).mono ?_
  rintro e w4 ⟨rfl, k4⟩
  replace HB := hidIt ((on HB.out k4).alloc (Nat.le_trans HB.out.size k4.size) (.cells (i5 q0 q1 q2 q3 q4) 25))
  replace B3 := hidIt ((B3.out.kept k4).alloc (.cells (i5 q0 q1 q2 q3 q4) 25))
  replace B6 := hidIt ((B6.out.kept k4).alloc (.cells (i5 q0 q1 q2 q3 q4) 25))
  have B11 := hidIt (Bo.Box.new w4 (i5 q0 q1 q2 q3 q4) 25)
  clear k4 CI
  go_upto_region 7 with fail
  generalize w4.heap.size = g11 at *
  generalize w4.alloc (.cells #[.int .i64 q0, .int .i64 q1, .int .i64 q2, .int .i64 q3, .int .i64 q4] 25) = W4 at *
  go_wp2_with (fail)
  refine (DrawServed_any a0 len0 cap0 _ (code_at HC.out HB.out) hl).mono ?_
  rintro e w5 ⟨s0, s1, s2, s3, s4, rfl, k5⟩
  replace HB := hidIt ((on HB.out k5).alloc (Nat.le_trans HB.out.size k5.size) (.cells (i5 s0 s1 s2 s3 s4) 25))
  replace B3 := hidIt ((B3.out.kept k5).alloc (.cells (i5 s0 s1 s2 s3 s4) 25))
  replace B6 := hidIt ((B6.out.kept k5).alloc (.cells (i5 s0 s1 s2 s3 s4) 25))
  replace B11 := hidIt ((B11.out.kept k5).alloc (.cells (i5 s0 s1 s2 s3 s4) 25))
  have B13 := hidIt (Bo.Box.new w5 (i5 s0 s1 s2 s3 s4) 25)
  clear k5 HC
  go_upto_region 8 with fail
  generalize w5.heap.size = g13 at *
  generalize w5.alloc (.cells #[.int .i64 s0, .int .i64 s1, .int .i64 s2, .int .i64 s3, .int .i64 s4] 25) = W5 at *
  have d0 := B3.out.c 0 (v := .int .i64 p) rfl
  have d1 := B3.out.c 1 (v := .int .i64 m) rfl
  have d2 := B3.out.c 2 (v := .int .i64 o) rfl
  have d3 := B3.out.c 3 (v := .int .i64 n) rfl
  have d4 := B3.out.c 4 (v := .int .i64 a) rfl
  go_wp2_with (fail)
  refine (CS.out _).mono ?_
  rintro e w6 ⟨rfl, k6⟩
  replace HB := hidIt ((on HB.out k6).alloc (Nat.le_trans HB.out.size k6.size) (.cells (i5 p' m' o' n' a') 25))
  replace B3 := hidIt ((B3.out.kept k6).alloc (.cells (i5 p' m' o' n' a') 25))
  replace B6 := hidIt ((B6.out.kept k6).alloc (.cells (i5 p' m' o' n' a') 25))
  replace B11 := hidIt ((B11.out.kept k6).alloc (.cells (i5 p' m' o' n' a') 25))
  replace B13 := hidIt ((B13.out.kept k6).alloc (.cells (i5 p' m' o' n' a') 25))
  have B14 := hidIt (Bo.Box.new w6 (i5 p' m' o' n' a') 25)
  clear k6 CS d0 d1 d2 d3 d4
  go_upto_region 9 with fail
  generalize w6.heap.size = g14 at *
  generalize w6.alloc (.cells #[.int .i64 p', .int .i64 m', .int .i64 o', .int .i64 n', .int .i64 a'] 25) = W6 at *
  have hS : Hid (∀ w', Below W6.heap.size W6 w' → four w' g3 g6 g14 g13 p m o n a p' m' o' n' a' s0 s1 s2 s3 s4) := hidIt (fun w' k => ⟨five_of (B3.out.kept k), five_of (B6.out.kept k), five_of (B14.out.kept k), five_of (B13.out.kept k)⟩)
  obtain ⟨rk, hrk⟩ : ∃ rk, rollOk p m o n a = rk := ⟨_, rfl⟩
  obtain ⟨sk, hsk⟩ : ∃ sk, rollOk s0 s1 s2 s3 s4 = sk := ⟨_, rfl⟩
  have CR : Hid (∀ W, Calls Try.prog 11 #[rv p m o n a] W fun e w' => e = .returned (.bool rk) ∧ Below W.heap.size W w') := hidIt (fun W => (impl_RollOk p m o n a W).mono (fun e w1 ⟨h1, h2⟩ => ⟨by rw [h1, hrk], by rw [h2]; go_grown⟩))
  have CRs : Hid (∀ W, Calls Try.prog 12 #[rv p m o n a] W fun e w' => e = .returned (.bool rk) ∧ Below W.heap.size W w') := hidIt (fun W => (spec_RollOk p m o n a W).mono (fun e w1 ⟨h1, h2⟩ => ⟨by rw [h1, hrk], by rw [h2]; go_grown⟩))
  have CSk : Hid (∀ W, Calls Try.prog 12 #[rv s0 s1 s2 s3 s4] W fun e w' => e = .returned (.bool sk) ∧ Below W.heap.size W w') := hidIt (fun W => (spec_RollOk s0 s1 s2 s3 s4 W).mono (fun e w1 ⟨h1, h2⟩ => ⟨by rw [h1, hsk], by rw [h2]; go_grown⟩))
  have CV := hidIt (fun W => impl_Served s0 s1 s2 s3 s4 W)
  have CVs := hidIt (fun W => spec_Served s0 s1 s2 s3 s4 W)
  have CG := hidIt (fun W => impl_Signing s0 s1 s2 s3 s4 W)
  have CGs := hidIt (fun W => spec_Signing s0 s1 s2 s3 s4 W)
  have hSl : (serR s0 s1 s2 s3 s4).length ≤ 3 := by rw [ser_length]; exact sec_length _ _ _ _ _
  have hKy : Hid (sk = true → secB (signR s0 s1 s2 s3 s4) = true ∧ keyI (signR s0 s1 s2 s3 s4) ∈ serR s0 s1 s2 s3 s4) := hidIt (fun e => by
    have h := sign_in (hsk.trans e)
    exact ⟨sec_all h, List.mem_map.2 ⟨_, h, rfl⟩⟩)
  have hKn : Hid (sk = false → signR s0 s1 s2 s3 s4 = 0) := hidIt (fun e => by unfold signR; rw [if_pos (hsk.trans e)])
  generalize serR s0 s1 s2 s3 s4 = S at CV CVs hSl hKy
  generalize signR s0 s1 s2 s3 s4 = sg at CG CGs hKy hKn
  have HRK := hidIt hrk
  clear hrk hsk
  generalize hsl : S.length = sl at *
  have HSL := hidIt hsl
  clear hsl
  have CL : Hid (∀ W a b ca cb, Pt.Rd W a S → Pt.Rd W b S → Calls Try.prog 13 #[.slice a sl ca, .slice b sl cb] W fun e w' => e = .returned (.bool true) ∧ Below W.heap.size W w') := hidIt (fun W a b ca cb ha hb => by
    have h := likePoints_any a b ca cb S W ha hb (by rw [HSL.out]; omega)
    rw [HSL.out] at h
    exact h)
  have hii : (is != is) = false := by cases is <;> rfl
  have hrr : (rk != rk) = false := by cases rk <;> rfl
  have hgg : (sg != sg) = false := by simp
  have K0 := hidIt ((Below.refl W6.heap.size W6).drew)
  have SZ : four W6.drew g3 g6 g14 g13 p m o n a p' m' o' n' a' s0 s1 s2 s3 s4 := hS.out _ K0.out
  go_cut [89] from 23 (fun s89 wq => s89 = .bool false ∧ Hid (Below W6.heap.size W6 wq))
  case first =>
    go_region_held3 (fun w' => four w' g3 g6 g14 g13 p m o n a p' m' o' n' a' s0 s1 s2 s3 s4)
      (first | (with_reducible assumption) | (trace_state; fail))
      (first
      | (go_at_call 11; refine (CR.out _).mono ?_; rintro e wA ⟨rfl, kA⟩; have KA := hidIt (K0.out.trans kA); clear kA; have SA : four wA g3 g6 g14 g13 p m o n a p' m' o' n' a' s0 s1 s2 s3 s4 := hS.out _ KA.out)
      | (go_at_call 12; refine (CRs.out _).mono ?_; rintro e wB ⟨rfl, kB⟩; have KB := hidIt (KA.out.trans (kB.mono KA.out.size)); clear kB; have SB : four wB g3 g6 g14 g13 p m o n a p' m' o' n' a' s0 s1 s2 s3 s4 := hS.out _ KB.out)
      | (go_at_call 14; refine (CV.out _).mono ?_; rintro e wC ⟨v1, rfl, o1, kC⟩; have KC := hidIt (KB.out.trans (kC.mono KB.out.size)); clear kC; obtain ⟨a1, c1, rfl, r1⟩ := formN o1 HSL.out; have R1 := hidIt r1; clear r1 o1; have SC : four wC g3 g6 g14 g13 p m o n a p' m' o' n' a' s0 s1 s2 s3 s4 := hS.out _ KC.out)
      | (go_at_call 15; refine (CVs.out _).mono ?_; rintro e wD ⟨v2, rfl, o2, kD⟩; have KD := hidIt (KC.out.trans (kD.mono KC.out.size)); have R1D := hidIt (R1.out.kept kD); clear kD; obtain ⟨a2, c2, rfl, r2⟩ := formN o2 HSL.out; have R2 := hidIt r2; clear r2 o2; have SD : four wD g3 g6 g14 g13 p m o n a p' m' o' n' a' s0 s1 s2 s3 s4 := hS.out _ KD.out)
      | (go_at_call 13; refine (CL.out _ _ _ _ _ R1D.out R2.out).mono ?_; rintro e wE ⟨rfl, kE⟩; have KE := hidIt (KD.out.trans (kE.mono KD.out.size)); clear kE; have SE : four wE g3 g6 g14 g13 p m o n a p' m' o' n' a' s0 s1 s2 s3 s4 := hS.out _ KE.out)
      | (go_at_call 16; refine (CG.out _).mono ?_; rintro e wF ⟨rfl, kF⟩; have KF := hidIt (KE.out.trans (kF.mono KE.out.size)); clear kF; have SF : four wF g3 g6 g14 g13 p m o n a p' m' o' n' a' s0 s1 s2 s3 s4 := hS.out _ KF.out)
      | (go_at_call 17; refine (CGs.out _).mono ?_; rintro e wG ⟨rfl, kG⟩; have KG := hidIt (KF.out.trans (kG.mono KF.out.size)); clear kG; have SG : four wG g3 g6 g14 g13 p m o n a p' m' o' n' a' s0 s1 s2 s3 s4 := hS.out _ KG.out))
    go_wp2_with (fail)
    go_meet
    case rel => exact ⟨rfl, KG⟩
  case rest =>
    obtain ⟨rfl, HK⟩ := hcut
    replace HB := hidIt (on HB.out HK.out)
    replace B3 := hidIt (B3.out.kept HK.out)
    replace B6 := hidIt (B6.out.kept HK.out)
    replace B11 := hidIt (B11.out.kept HK.out)
    replace B13 := hidIt (B13.out.kept HK.out)
    clear hS HK K0 SZ B14 CR CVs CGs CL hii hrr hgg W6
    go_wp2_with (fail)
    refine (CN.out _).mono ?_
    rintro e w7 ⟨rfl, k7⟩
    replace HB := hidIt ((on HB.out k7).alloc (Nat.le_trans HB.out.size k7.size) (.cells (i5 q0 q1 q2 q3 q4) 25))
    replace B3 := hidIt ((B3.out.kept k7).alloc (.cells (i5 q0 q1 q2 q3 q4) 25))
    replace B6 := hidIt ((B6.out.kept k7).alloc (.cells (i5 q0 q1 q2 q3 q4) 25))
    replace B11 := hidIt ((B11.out.kept k7).alloc (.cells (i5 q0 q1 q2 q3 q4) 25))
    replace B13 := hidIt ((B13.out.kept k7).alloc (.cells (i5 q0 q1 q2 q3 q4) 25))
    have B16 := hidIt (Bo.Box.new w7 (i5 q0 q1 q2 q3 q4) 25)
    clear k7 CN
    go_upto_region 12 with fail
    generalize w7.heap.size = g16 at *
    generalize w7.alloc (.cells #[.int .i64 q0, .int .i64 q1, .int .i64 q2, .int .i64 q3, .int .i64 q4] 25) = W7 at *
    go_cut [112] from 23 (fun s112 wq => s112 = .bool false ∧ Hid (Below W7.heap.size W7 wq))
    case first =>
      have d0 := B11.out.c 0 (v := .int .i64 q0) rfl
      have d1 := B11.out.c 1 (v := .int .i64 q1) rfl
      have d2 := B11.out.c 2 (v := .int .i64 q2) rfl
      have d3 := B11.out.c 3 (v := .int .i64 q3) rfl
      have d4 := B11.out.c 4 (v := .int .i64 q4) rfl
      have e0 := B16.out.c 0 (v := .int .i64 q0) rfl
      have e1 := B16.out.c 1 (v := .int .i64 q1) rfl
      have e2 := B16.out.c 2 (v := .int .i64 q2) rfl
      have e3 := B16.out.c 3 (v := .int .i64 q3) rfl
      have e4 := B16.out.c 4 (v := .int .i64 q4) rfl
      cases made with
      | false =>
        go_wp2_with (fail)
        go_meet
        case rel => exact ⟨rfl, hidIt (Below.refl _ _)⟩
      | true =>
        have CQ : Hid (∀ W, Calls Try.prog 11 #[rv q0 q1 q2 q3 q4] W fun e w' => e = .returned (.bool true) ∧ Below W.heap.size W w') := hidIt (fun W => (impl_RollOk q0 q1 q2 q3 q4 W).mono (fun e w1 ⟨h1, h2⟩ => ⟨by rw [h1, HN.out rfl], by rw [h2]; go_grown⟩))
        go_wp2_with (fail)
        refine (CQ.out _).mono ?_
        rintro e w8 ⟨rfl, k8⟩
        have K8 := hidIt k8
        clear k8
        go_wp2_with (fail)
        go_meet
        case rel => exact ⟨rfl, K8⟩
    case rest =>
      obtain ⟨rfl, HK⟩ := hcut
      replace HB := hidIt (on HB.out HK.out)
      replace B3 := hidIt (B3.out.kept HK.out)
      replace B6 := hidIt (B6.out.kept HK.out)
      replace B13 := hidIt (B13.out.kept HK.out)
      clear HK B11 B16 HN W7
      have d0 := B13.out.c 0 (v := .int .i64 s0) rfl
      have d1 := B13.out.c 1 (v := .int .i64 s1) rfl
      have d2 := B13.out.c 2 (v := .int .i64 s2) rfl
      have d3 := B13.out.c 3 (v := .int .i64 s3) rfl
      have d4 := B13.out.c 4 (v := .int .i64 s4) rfl
      go_wp2_with (fail)
      refine (CG.out _).mono ?_
      rintro e w8 ⟨rfl, k8⟩
      replace HB := hidIt (on HB.out k8)
      replace B3 := hidIt (B3.out.kept k8)
      replace B6 := hidIt (B6.out.kept k8)
      replace B13 := hidIt (B13.out.kept k8)
      clear k8 d0 d1 d2 d3 d4 CG
      cases sk with
      | false =>
        have e0 := hKn.out rfl
        subst e0
        have CK0 := hidIt (fun W => Cv.impl_KeyOf_no 0 W (.inl (by decide)))
        go_wp2_with (fail)
        refine (CK0.out _).mono ?_
        rintro e w9 ⟨rfl, k9⟩
        replace HB := hidIt ((on HB.out k9).alloc (Nat.le_trans HB.out.size k9.size) (.cells #[.int .i64 0, .int .i64 0] 40))
        replace B3 := hidIt ((B3.out.kept k9).alloc (.cells #[.int .i64 0, .int .i64 0] 40))
        replace B6 := hidIt ((B6.out.kept k9).alloc (.cells #[.int .i64 0, .int .i64 0] 40))
        replace B13 := hidIt ((B13.out.kept k9).alloc (.cells #[.int .i64 0, .int .i64 0] 40))
        clear k9 CK0 hKy hKn CV
        go_upto_region 15 with fail
        generalize w9.heap.size = g18 at *
        generalize w9.alloc (.cells #[.int .i64 0, .int .i64 0] 40) = W9 at *
        have d0 := B13.out.c 0 (v := .int .i64 s0) rfl
        have d1 := B13.out.c 1 (v := .int .i64 s1) rfl
        have d2 := B13.out.c 2 (v := .int .i64 s2) rfl
        have d3 := B13.out.c 3 (v := .int .i64 s3) rfl
        have d4 := B13.out.c 4 (v := .int .i64 s4) rfl
        go_wp2_with (fail)
        refine (CSk.out _).mono ?_
        rintro e w10 ⟨rfl, k10⟩
        replace HB := hidIt (on HB.out k10)
        replace B3 := hidIt (B3.out.kept k10)
        replace B6 := hidIt (B6.out.kept k10)
        clear k10 d0 d1 d2 d3 d4 B13 CSk
        have d0 := B3.out.c 0 (v := .int .i64 p) rfl
        have d1 := B3.out.c 1 (v := .int .i64 m) rfl
        have d2 := B3.out.c 2 (v := .int .i64 o) rfl
        have d3 := B3.out.c 3 (v := .int .i64 n) rfl
        have d4 := B3.out.c 4 (v := .int .i64 a) rfl
        have hrk := HRK.out
        rcases HF.out with ⟨h1, h2, h3⟩ | ⟨h1, h2, h3⟩ | ⟨h1, h2, h3, h4, h5, ha0, ha1, hln, hn1, hph⟩
        · rw [h1] at hrk
          simp only [Prod.mk.injEq] at h3
          obtain ⟨z0, z1, z2, z3, z4⟩ := h3
          subst z0 z1 z2 z3 z4 h2 hrk
          clear h1 HF HRK
          go_wp2_with (fail)
          refine (CRs.out _).mono ?_
          rintro e w9 ⟨rfl, k9⟩
          have HB9 := hidIt (on HB.out k9)
          have B69 := hidIt (B6.out.kept k9)
          clear k9 d0 d1 d2 d3 d4
          have d0 := B69.out.c 0 (v := .int .i64 0) rfl
          have d1 := B69.out.c 1 (v := .int .i64 0) rfl
          have d2 := B69.out.c 2 (v := .int .i64 0) rfl
          have d3 := B69.out.c 3 (v := .int .i64 0) rfl
          have d4 := B69.out.c 4 (v := .int .i64 0) rfl
          go_wp2_with (fail)
          go_ret
          exact ⟨rfl, HB9.out⟩
        · rw [h1] at hrk
          simp only [Prod.mk.injEq] at h3
          obtain ⟨z0, z1, z2, z3, z4⟩ := h3
          subst z0 z1 z2 z3 z4 h2 hrk
          clear h1 HF HRK
          go_wp2_with (fail)
          refine (CRs.out _).mono ?_
          rintro e w9 ⟨rfl, k9⟩
          have HB9 := hidIt (on HB.out k9)
          have B69 := hidIt (B6.out.kept k9)
          have B39 := hidIt (B3.out.kept k9)
          clear k9 d0 d1 d2 d3 d4
          have d0 := B39.out.c 0 (v := .int .i64 p') rfl
          have d1 := B39.out.c 1 (v := .int .i64 m') rfl
          have d2 := B39.out.c 2 (v := .int .i64 o') rfl
          have d3 := B39.out.c 3 (v := .int .i64 n') rfl
          have d4 := B39.out.c 4 (v := .int .i64 a') rfl
          have e0 := B69.out.c 0 (v := .int .i64 p') rfl
          have e1 := B69.out.c 1 (v := .int .i64 m') rfl
          have e2 := B69.out.c 2 (v := .int .i64 o') rfl
          have e3 := B69.out.c 3 (v := .int .i64 n') rfl
          have e4 := B69.out.c 4 (v := .int .i64 a') rfl
          go_wp2_with (fail)
          go_ret
          exact ⟨rfl, HB9.out⟩
        · rw [h1] at hrk
          try simp only at h3 h4 h5 hph
          have CX : Hid (∀ W, Calls Try.prog 11 #[rv p' m' o' n' a'] W fun e w' => e = .returned (.bool true) ∧ Below W.heap.size W w') := hidIt (fun W => (impl_RollOk p' m' o' n' a' W).mono (fun e w1 ⟨k1, k2⟩ => ⟨by rw [k1, h3], by rw [k2]; go_grown⟩))
          subst h4 h5 h2 hrk
          clear h1 h3 HF HRK
          go_wp2_with (fail)
          refine (CRs.out _).mono ?_
          rintro e w9 ⟨rfl, k9⟩
          have HB9 := hidIt (on HB.out k9)
          have B69 := hidIt (B6.out.kept k9)
          have B39 := hidIt (B3.out.kept k9)
          clear k9 d0 d1 d2 d3 d4
          have e0 := B69.out.c 0 (v := .int .i64 p') rfl
          have e1 := B69.out.c 1 (v := .int .i64 m') rfl
          have e2 := B69.out.c 2 (v := .int .i64 o') rfl
          have e3 := B69.out.c 3 (v := .int .i64 n') rfl
          have e4 := B69.out.c 4 (v := .int .i64 a') rfl
          go_wp2_with (fail)
          refine (CX.out _).mono ?_
          rintro e w10 ⟨rfl, k10⟩
          have HB10 := hidIt (on HB9.out k10)
          have B6x := hidIt (B69.out.kept k10)
          have B3x := hidIt (B39.out.kept k10)
          clear k10 e0 e1 e2 e3 e4
          have q1 : (a' == a') = true := by simp
          have q2 : (m' == m') = true := by simp
          have q3 : 100 ≤ a' - a := by omega
          have q4 : -9223372036854775808 ≤ a' - a := by omega
          have q5 : a' - a ≤ 9223372036854775807 := by omega
          rcases hph with ⟨z1, z2⟩ | ⟨z1, z2⟩ | ⟨z1, z2⟩
          all_goals
            subst z1 z2
            have f4 := B6x.out.c 4 (v := .int .i64 a') rfl
            have f1 := B6x.out.c 1 (v := .int .i64 m') rfl
            have f0 := B6x.out.c 0 rfl
            have h4 := B3x.out.c 4 (v := .int .i64 a) rfl
            have h1 := B3x.out.c 1 (v := .int .i64 m') rfl
            have h0 := B3x.out.c 0 rfl
            go_wp2_with (fail)
            go_ret
            exact ⟨rfl, HB10.out⟩
      | true =>
        obtain ⟨hsec, hmem⟩ := hKy.out rfl
        have CK1 := hidIt (fun W => impl_KeyOf_sec sg hsec W)
        have HM := hidIt hmem
        clear hsec hmem hKy hKn
        generalize keyI sg = q at CK1 HM
        obtain ⟨qx, qy⟩ := q
        go_wp2_with (fail)
        refine (CK1.out _).mono ?_
        rintro e w9 ⟨rfl, k9⟩
        replace HB := hidIt ((on HB.out k9).alloc (Nat.le_trans HB.out.size k9.size) (.cells #[.int .i64 qx, .int .i64 qy] 40))
        replace B3 := hidIt ((B3.out.kept k9).alloc (.cells #[.int .i64 qx, .int .i64 qy] 40))
        replace B6 := hidIt ((B6.out.kept k9).alloc (.cells #[.int .i64 qx, .int .i64 qy] 40))
        replace B13 := hidIt ((B13.out.kept k9).alloc (.cells #[.int .i64 qx, .int .i64 qy] 40))
        have BQ := hidIt (Bo.Box.new w9 #[.int .i64 qx, .int .i64 qy] 40)
        clear k9 CK1
        go_upto_region 15 with fail
        generalize w9.heap.size = g18 at *
        generalize w9.alloc (.cells #[.int .i64 qx, .int .i64 qy] 40) = W9 at *
        have d0 := B13.out.c 0 (v := .int .i64 s0) rfl
        have d1 := B13.out.c 1 (v := .int .i64 s1) rfl
        have d2 := B13.out.c 2 (v := .int .i64 s2) rfl
        have d3 := B13.out.c 3 (v := .int .i64 s3) rfl
        have d4 := B13.out.c 4 (v := .int .i64 s4) rfl
        go_wp2_with (fail)
        refine (CSk.out _).mono ?_
        rintro e w10 ⟨rfl, k10⟩
        replace HB := hidIt (on HB.out k10)
        replace B3 := hidIt (B3.out.kept k10)
        replace B6 := hidIt (B6.out.kept k10)
        replace B13 := hidIt (B13.out.kept k10)
        replace BQ := hidIt (BQ.out.kept k10)
        clear k10 d0 d1 d2 d3 d4 CSk
        have d0 := B13.out.c 0 (v := .int .i64 s0) rfl
        have d1 := B13.out.c 1 (v := .int .i64 s1) rfl
        have d2 := B13.out.c 2 (v := .int .i64 s2) rfl
        have d3 := B13.out.c 3 (v := .int .i64 s3) rfl
        have d4 := B13.out.c 4 (v := .int .i64 s4) rfl
        go_wp2_with (fail)
        refine (CV.out _).mono ?_
        rintro e w11 ⟨v19, rfl, o4, k11⟩
        replace HB := hidIt (on HB.out k11)
        replace B3 := hidIt (B3.out.kept k11)
        replace B6 := hidIt (B6.out.kept k11)
        replace BQ := hidIt (BQ.out.kept k11)
        obtain ⟨a19, cap19, rfl, r4⟩ := formN o4 HSL.out
        have R4 := hidIt r4
        clear k11 o4 r4 CV d0 d1 d2 d3 d4 B13
        go_wp2_with (fail)
        go_hide hQ4
        go_loopw [20, 22] (fun v18 v20 wx => ∃ (j : Nat) (b : Bool), v20 = .int .i64 j ∧ v18 = .bool b ∧ j ≤ sl ∧ Hid (b = decide ((qx, qy) ∈ S.take j)) ∧ Hid (Below w11.heap.size w11 wx)) (fun _ y _ => (sl - intOf y).toNat)
        case atStart => exact ⟨0, false, rfl, rfl, by omega, hidIt (by simp), hidIt (Below.refl _ _)⟩
        case round =>
          obtain ⟨j, b, rfl, rfl, hj, HBJ, HJ⟩ := hrel
          generalize wr = W5 at *
          by_cases hjn : j < sl
          · have g6 : (j : Int) < (sl : Int) := by omega
            have hTk := hidIt (take_lat (L := S) (i := j) (by rw [HSL.out]; exact hjn))
            have HJ' := hidIt (fun x => Go.Proofs.Yteclbfgkeoiclaa.Below.drewN HJ.out x)
            have BQ5 := hidIt (BQ.out.kept HJ.out)
            have q0 := BQ5.out.c 0 (v := .int .i64 qx) rfl
            have q1 := BQ5.out.c 1 (v := .int .i64 qy) rfl
            obtain ⟨b19, off19, rfl, c0, c1⟩ := (R4.out.kept HJ.out).cell j (by rw [HSL.out]; exact hjn)
            generalize Pt.lat S j = y at c0 c1 hTk
            obtain ⟨yx, yy⟩ := y
            simp only at c0 c1
            cases b with
            | true =>
              have HBJ' : Hid (true = decide ((qx, qy) ∈ S.take (j + 1))) := hidIt (by rw [hTk.out]; have := HBJ.out; simp at this; simp [this])
              go_wp2_with (fail)
              go_quiet (fail)
              go_wp2_with (fail)
              exact ⟨⟨j + 1, true, by simp, rfl, by omega, HBJ', hidIt (HJ'.out _)⟩, by simp [intOf]; omega⟩
            | false =>
              by_cases e1 : yx = qx
              · subst e1
                by_cases e2 : yy = qy
                · subst e2
                  have HBJ' : Hid (true = decide ((yx, yy) ∈ S.take (j + 1))) := hidIt (by rw [hTk.out]; simp)
                  have e3 : (yx == yx) = true := by simp
                  have e4 : (yy == yy) = true := by simp
                  go_wp2_with (fail)
                  go_quiet (fail)
                  go_wp2_with (fail)
                  exact ⟨⟨j + 1, true, by simp, rfl, by omega, HBJ', hidIt (HJ'.out _)⟩, by simp [intOf]; omega⟩
                · have HBJ' : Hid (false = decide ((yx, qy) ∈ S.take (j + 1))) := hidIt (by rw [hTk.out]; have := HBJ.out; simp at this; simp [this]; intro h; exact e2 h.symm)
                  have e3 : (yx == yx) = true := by simp
                  have e4 : (yy == qy) = false := by simpa using e2
                  clear e2
                  go_wp2_with (fail)
                  go_quiet (fail)
                  go_wp2_with (fail)
                  exact ⟨⟨j + 1, false, by simp, rfl, by omega, HBJ', hidIt (HJ'.out _)⟩, by simp [intOf]; omega⟩
              · have HBJ' : Hid (false = decide ((qx, qy) ∈ S.take (j + 1))) := hidIt (by rw [hTk.out]; have := HBJ.out; simp at this; simp [this]; intro h; exact absurd h.symm e1)
                have e4 : (yx == qx) = false := by simpa using e1
                clear e1
                go_wp2_with (fail)
                go_quiet (fail)
                go_wp2_with (fail)
                exact ⟨⟨j + 1, false, by simp, rfl, by omega, HBJ', hidIt (HJ'.out _)⟩, by simp [intOf]; omega⟩
          · have g6 : ¬ (j : Int) < (sl : Int) := by omega
            have eb : b = true := by
              rw [HBJ.out, List.take_of_length_le (by rw [HSL.out]; omega)]
              exact decide_eq_true HM.out
            subst eb
            replace HB := hidIt (on HB.out HJ.out)
            replace B3 := hidIt (B3.out.kept HJ.out)
            replace B6 := hidIt (B6.out.kept HJ.out)
            clear HBJ HJ BQ R4 HM
            go_wp2_with (fail)
            subst hQ4
            have d0 := B3.out.c 0 (v := .int .i64 p) rfl
            have d1 := B3.out.c 1 (v := .int .i64 m) rfl
            have d2 := B3.out.c 2 (v := .int .i64 o) rfl
            have d3 := B3.out.c 3 (v := .int .i64 n) rfl
            have d4 := B3.out.c 4 (v := .int .i64 a) rfl
            have hrk := HRK.out
            rcases HF.out with ⟨h1, h2, h3⟩ | ⟨h1, h2, h3⟩ | ⟨h1, h2, h3, h4, h5, ha0, ha1, hln, hn1, hph⟩
            · rw [h1] at hrk
              simp only [Prod.mk.injEq] at h3
              obtain ⟨z0, z1, z2, z3, z4⟩ := h3
              subst z0 z1 z2 z3 z4 h2 hrk
              clear h1 HF HRK
              go_wp2_with (fail)
              refine (CRs.out _).mono ?_
              rintro e w9 ⟨rfl, k9⟩
              have HB9 := hidIt (on HB.out k9)
              have B69 := hidIt (B6.out.kept k9)
              clear k9 d0 d1 d2 d3 d4
              have d0 := B69.out.c 0 (v := .int .i64 0) rfl
              have d1 := B69.out.c 1 (v := .int .i64 0) rfl
              have d2 := B69.out.c 2 (v := .int .i64 0) rfl
              have d3 := B69.out.c 3 (v := .int .i64 0) rfl
              have d4 := B69.out.c 4 (v := .int .i64 0) rfl
              go_wp2_with (fail)
              go_ret
              exact ⟨rfl, HB9.out⟩
            · rw [h1] at hrk
              simp only [Prod.mk.injEq] at h3
              obtain ⟨z0, z1, z2, z3, z4⟩ := h3
              subst z0 z1 z2 z3 z4 h2 hrk
              clear h1 HF HRK
              go_wp2_with (fail)
              refine (CRs.out _).mono ?_
              rintro e w9 ⟨rfl, k9⟩
              have HB9 := hidIt (on HB.out k9)
              have B69 := hidIt (B6.out.kept k9)
              have B39 := hidIt (B3.out.kept k9)
              clear k9 d0 d1 d2 d3 d4
              have d0 := B39.out.c 0 (v := .int .i64 p') rfl
              have d1 := B39.out.c 1 (v := .int .i64 m') rfl
              have d2 := B39.out.c 2 (v := .int .i64 o') rfl
              have d3 := B39.out.c 3 (v := .int .i64 n') rfl
              have d4 := B39.out.c 4 (v := .int .i64 a') rfl
              have e0 := B69.out.c 0 (v := .int .i64 p') rfl
              have e1 := B69.out.c 1 (v := .int .i64 m') rfl
              have e2 := B69.out.c 2 (v := .int .i64 o') rfl
              have e3 := B69.out.c 3 (v := .int .i64 n') rfl
              have e4 := B69.out.c 4 (v := .int .i64 a') rfl
              go_wp2_with (fail)
              go_ret
              exact ⟨rfl, HB9.out⟩
            · rw [h1] at hrk
              try simp only at h3 h4 h5 hph
              have CX : Hid (∀ W, Calls Try.prog 11 #[rv p' m' o' n' a'] W fun e w' => e = .returned (.bool true) ∧ Below W.heap.size W w') := hidIt (fun W => (impl_RollOk p' m' o' n' a' W).mono (fun e w1 ⟨k1, k2⟩ => ⟨by rw [k1, h3], by rw [k2]; go_grown⟩))
              subst h4 h5 h2 hrk
              clear h1 h3 HF HRK
              go_wp2_with (fail)
              refine (CRs.out _).mono ?_
              rintro e w9 ⟨rfl, k9⟩
              have HB9 := hidIt (on HB.out k9)
              have B69 := hidIt (B6.out.kept k9)
              have B39 := hidIt (B3.out.kept k9)
              clear k9 d0 d1 d2 d3 d4
              have e0 := B69.out.c 0 (v := .int .i64 p') rfl
              have e1 := B69.out.c 1 (v := .int .i64 m') rfl
              have e2 := B69.out.c 2 (v := .int .i64 o') rfl
              have e3 := B69.out.c 3 (v := .int .i64 n') rfl
              have e4 := B69.out.c 4 (v := .int .i64 a') rfl
              go_wp2_with (fail)
              refine (CX.out _).mono ?_
              rintro e w10 ⟨rfl, k10⟩
              have HB10 := hidIt (on HB9.out k10)
              have B6x := hidIt (B69.out.kept k10)
              have B3x := hidIt (B39.out.kept k10)
              clear k10 e0 e1 e2 e3 e4
              have q1 : (a' == a') = true := by simp
              have q2 : (m' == m') = true := by simp
              have q3 : 100 ≤ a' - a := by omega
              have q4 : -9223372036854775808 ≤ a' - a := by omega
              have q5 : a' - a ≤ 9223372036854775807 := by omega
              rcases hph with ⟨z1, z2⟩ | ⟨z1, z2⟩ | ⟨z1, z2⟩
              all_goals
                subst z1 z2
                have f4 := B6x.out.c 4 (v := .int .i64 a') rfl
                have f1 := B6x.out.c 1 (v := .int .i64 m') rfl
                have f0 := B6x.out.c 0 rfl
                have h4 := B3x.out.c 4 (v := .int .i64 a) rfl
                have h1 := B3x.out.c 1 (v := .int .i64 m') rfl
                have h0 := B3x.out.c 0 rfl
                go_wp2_with (fail)
                go_ret
                exact ⟨rfl, HB10.out⟩

set_option maxRecDepth 100000 in
theorem lifted (os : Os) (started : os.Started) (H : Type) (enc : TypeId × Value → H) :
    ReturnsInHanded {} Try.checked os 3 .any (Rows.fnRollsSpec.pre6 enc Try.prog Try.f3 Rows.fnRollsRow.domain false) (Rows.fnRollsSpec.post enc Try.prog Try.f3 false true false false) := by
  refine returnsInHanded_of_change (C := Try.checked) own started (by kernel_rfl) Try.func3
    (ChangeSpec.witness6 (enc := enc) (C := Try.checked) false ⟨#[], #[.slice none 0 0], []⟩ 8 (by kernel_rfl) (by kernel_rfl) (by kernel_rfl) (by kernel_rfl)) ?_
  intro W base args ds gs before hval0 hW hcnd _
  have hval : ∀ (j : Nat) t v, Try.f3.params[j]? = some t → args[j]? = some v → Value.okWide Try.prog W .any base t v := hval0
  have hW' := hW
  obtain ⟨p, q, hA0, hV, rfl, hfz, hnd⟩ := hW
  have hA : DataW.TrodAll enc Try.prog W 0 (fun _ => true) true Try.f3.params.toList args.toList ds p := hA0
  rw [Try.params3] at hA hval
  obtain ⟨v0, vs0, d0, ds0, p0, q0, hargs, rfl, rfl, h0, r0⟩ := trodAll_cons hA
  obtain ⟨rfl, rfl, rfl⟩ := trodAll_nil r0
  obtain rfl : args = #[v0] := by cases args; simp_all
  obtain ⟨rfl, rfl⟩ := trodVars_none hV
  have k0 := h0
  have lt0 : ∀ x ∈ p0, x.block < W.heap.size := by obtain ⟨m, hm⟩ := k0; exact DataW.trod_lt m _ _ _ hm
  obtain ⟨a0, len0, cap0, rfl⟩ := okWide_slice Try.underlying22 (hval 0 22 v0 rfl rfl)
  obtain ⟨z0, w0⟩ : ∃ zs, IsRow .u8 W a0 len0 cap0 zs := by
    obtain ⟨fuel, hf⟩ := h0
    rcases open_ints Try.underlying22 Try.underlying5 (by kernel_rfl) hf with ⟨hcs, _⟩ | ⟨x, l, c, zs, hcs, _, hl, hm, hz, _, hcell, hwz⟩
    · simp [Value.cells] at hcs
      obtain ⟨rfl, rfl, rfl⟩ := hcs
      exact ⟨[], .inl ⟨rfl, rfl, rfl, rfl⟩⟩
    · simp [Value.cells] at hcs
      obtain ⟨rfl, rfl, rfl⟩ := hcs
      exact ⟨zs, .inr ⟨_, rfl, hl, hm, by simpa using hz, hcell, hwz⟩⟩
  clear hA0 hval0
  refine (walk a0 len0 cap0 z0 W w0).mono fun e W' ⟨he, bel⟩ => ?_
  subst he
  exact ⟨_, rfl, _, _, _, [], _, [], hW', trodAll_mk1 (shut_bool Try.underlying4 _), (trodAll_cons_mk (Below.trod laidOut (by kernel_rfl) (of_decide_eq_true (by kernel_rfl)) k0 bel lt0) trodAll_mk0), rfl, bel.frame _, fun h => by cases h⟩

theorem over : Rows.fnRollsRow.holds Try.pinned (OpenSpec.ofChange Rows.fnRollsSpec) :=
  OpenClaim.holds_of_wide 3 Try.f3 rfl rfl rfl rfl rfl rfl rfl ⟨rfl, rfl, rfl, rfl, rfl⟩ rfl rfl rfl rfl rfl (by kernel_rfl) Try.func3 (by kernel_rfl)
    (of_decide_eq_true (by kernel_rfl)) (by unfold Func.isWrapper; first | (rw [if_pos (by decide +kernel)]; kernel_rfl) | (rw [if_neg (by decide +kernel)]; exact ⟨rfl, rfl⟩))
    (fun os started H enc _ => lifted os started H enc)
end Go.Proofs.Yteclbfgkeoiclaa.fnRolls
namespace Go.Proofs.Yteclbfgkeoiclaa
theorem fnRolls_holds : Rows.FnRollsSaid := fnRolls.over
#print axioms fnRolls_holds
end Go.Proofs.Yteclbfgkeoiclaa
