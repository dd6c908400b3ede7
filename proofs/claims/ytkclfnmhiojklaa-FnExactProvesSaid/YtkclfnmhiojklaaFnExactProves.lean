/-
  FnExactProves answers true at every Deny, every two texts and every number, and leaves them as they were: Proves of the program answers as the specification's. No condition.
-/
import Derived.Test.YtkclfnmhiojklaaRows
import Derived.WalkKit
import Derived.ProofKit
import Derived.OpenShut
import Derived.ShutString
import Derived.ChangeOld
import Derived.Below
import Derived.Lib.SmallJoins
import Derived.Test.YtkclfnmhiojklaaDenJ
import Derived.Test.YtkclfnmhiojklaaDenP
import Derived.Test.YtkclfnmhiojklaaQuiet
namespace Go.Proofs.Ytkclfnmhiojklaa.fnExactProves
open Go.ChangeShapes Go.WideShapes Go.ChangeAt Go.RowKit Go.Joins
set_option linter.unusedVariables false

theorem own : ownKnob Try.prog.godebug = none := by kernel_rfl
theorem laidOut : laidOutB Try.prog = true := by kernel_rfl
open Zn Go.Proofs.Ytkclfnmhiojklaa.Nm
set_option maxRecDepth 100000 in
set_option maxHeartbeats 4000000 in

theorem walk (s0 u0 : ByteArray) (a0 : Option Addr) (cap0 : Nat) (L0 : List Int) (ws0 : s0.size ≤ 9223372036854775807) (wu0 : u0.size ≤ 9223372036854775807) (s1 : ByteArray) (ws1 : s1.size ≤ maxLen) (s2 : ByteArray) (ws2 : s2.size ≤ maxLen) (n3 : Int) (w : World) (w0 : Iv.In w a0 cap0 L0) :
    Calls Try.prog 3 #[.agg #[.string s0, .string u0, .slice a0 L0.length cap0], .string s1, .string s2, .int .i64 n3] w fun e w' => e = .returned (.bool true) ∧ Below w.heap.size w w' := by
  have HR := hidIt w0.rd
  have hl := w0.le
  have hc := w0.cap
  by_cases hb1 : 1048576 < s1.size
  · have hb1' : (1048576 : Int) < (s1.size : Int) := by omega
    clear w0 HR
    go_enter Try.func3, Try.ntmps3
    go_wp2
    go_ret
    exact ⟨rfl, (Below.refl _ _).alloc (Nat.le_refl _) _⟩
  · have hb1' : ¬ (1048576 : Int) < (s1.size : Int) := by omega
    by_cases hb2 : 1048576 < s2.size
    · have hb2' : (1048576 : Int) < (s2.size : Int) := by omega
      clear w0 HR
      go_enter Try.func3, Try.ntmps3
      go_wp2
      go_ret
      exact ⟨rfl, (Below.refl _ _).alloc (Nat.le_refl _) _⟩
    · have hb2' : ¬ (1048576 : Int) < (s2.size : Int) := by omega
      have CZ := hidIt (fun W => szDeny_any s0 u0 a0 cap0 L0.length 1048576 W ws0 wu0 (by omega) (by omega) (by omega))
      have HB : Hid (Below w.heap.size w (w.alloc (Obj.cells #[Value.string s0, Value.string u0, Value.slice a0 L0.length cap0] 24))) := hidIt ((Below.refl w.heap.size w).alloc (Nat.le_refl _) _)
      have BX : Hid (Bx (w.alloc (Obj.cells #[Value.string s0, Value.string u0, Value.slice a0 L0.length cap0] 24)) w.heap.size s0 u0 (Value.slice a0 L0.length cap0)) := hidIt ⟨by simp, by simp, by simp⟩
      clear w0
      go_enter Try.func3, Try.ntmps3
      go_wp2_with (fail)
      refine (CZ.out _).mono ?_
      rintro e w1 ⟨r, rfl, hr1, hr0, hr2, k1⟩
      replace HB := hidIt (HB.out.trans (k1.mono HB.out.size))
      replace BX := hidIt (BX.out.kept k1)
      clear k1
      have c0 := BX.out.c0
      have c1 := BX.out.c1
      have c2 := BX.out.c2
      by_cases hneg : r < 0
      · clear hr2
        go_wp2_with (fail)
        go_ret
        exact ⟨rfl, HB.out⟩
      · have hlen : L0.length ≤ 1048576 := hr2 (by omega)
        clear hr2 CZ
        have CT := hidIt (fun W h => toDeny_any s0 u0 a0 cap0 L0 W h hlen)
        have CS := hidIt (fun a c W h => spec_Proves s0 u0 a c L0 s1 s2 n3 W h (by omega))
        have CI := hidIt (fun a c W h => impl_Proves s0 u0 a c L0 s1 s2 n3 W h (by omega))
        have CE := hidIt (fun a b ca cb W h h' => eqDeny_same s0 u0 a b ca cb L0 W h h' (by omega))
        generalize provesB s0 u0 L0 s1 s2 n3 = pv at CS CI
        generalize hn : L0.length = n at *
        have HN := hidIt hn
        clear hn
        have hpp : (pv != pv) = false := by simp
        go_wp2_with (fail)
        refine (CT.out _ (HR.out.kept HB.out)).mono ?_
        rintro e w2 ⟨x2, cp2, rfl, hO2, k2⟩
        replace HB := hidIt (HB.out.trans (k2.mono HB.out.size))
        replace BX := hidIt (BX.out.kept k2)
        obtain ⟨_, _, e2, _, _, R2, _⟩ := hO2.form
        cases e2
        have HR2 := hidIt R2
        clear k2 hO2 R2
        go_wp2_with (fail)
        refine (CS.out x2 cp2 _ HR2.out).mono ?_
        rintro e w3 ⟨rfl, k3⟩
        replace HB := hidIt (HB.out.trans (k3.mono HB.out.size))
        replace BX := hidIt (BX.out.kept k3)
        clear k3 HR2
        have c0 := BX.out.c0
        have c1 := BX.out.c1
        have c2 := BX.out.c2
        go_wp2_with (fail)
        refine (CT.out _ (HR.out.kept HB.out)).mono ?_
        rintro e w4 ⟨x4, cp4, rfl, hO4, k4⟩
        replace HB := hidIt (HB.out.trans (k4.mono HB.out.size))
        replace BX := hidIt (BX.out.kept k4)
        obtain ⟨_, _, e4, _, _, R4, _⟩ := hO4.form
        cases e4
        have HR4 := hidIt R4
        clear k4 hO4 R4
        have BY : Hid (Bx (w4.alloc (Obj.cells #[Value.string s0, Value.string u0, Value.slice x4 L0.length cp4] 27)) w4.heap.size s0 u0 (Value.slice x4 L0.length cp4)) := hidIt ⟨by simp, by simp, by simp⟩
        have hA := (Below.refl w4.heap.size w4).alloc (Nat.le_refl _) (Obj.cells #[Value.string s0, Value.string u0, Value.slice x4 L0.length cp4] 27)
        replace HB := hidIt (HB.out.trans (hA.mono HB.out.size))
        replace BX := hidIt (BX.out.kept hA)
        replace HR4 := hidIt (HR4.out.kept hA)
        clear hA
        go_wp2_with (fail)
        refine (CI.out x4 cp4 _ HR4.out).mono ?_
        rintro e w5 ⟨rfl, k5⟩
        replace HB := hidIt (HB.out.trans (k5.mono HB.out.size))
        replace BX := hidIt (BX.out.kept k5)
        replace BY := hidIt (BY.out.kept k5)
        replace HR4 := hidIt (HR4.out.kept k5)
        clear k5 CS CI
        generalize w4.heap.size = g4 at BY ⊢
        have c0 := BX.out.c0
        have c1 := BX.out.c1
        have c2 := BX.out.c2
        have b0 := BY.out.c0
        have b1 := BY.out.c1
        have b2 := BY.out.c2
        go_wp2_with (fail)
        go_region_with (first
          | (go_at_call 6; refine (CT.out _ (HR.out.kept HB.out.drew)).mono ?_; rintro e w6 ⟨x6, cp6, rfl, hO6, k6⟩; have HB6 := hidIt (HB.out.drew.trans (k6.mono HB.out.drew.size)); have BY6 := hidIt (BY.out.drew.kept k6); have HQ6 := hidIt (HR4.out.drew.kept k6); obtain ⟨_, _, e6, _, _, R6, _⟩ := hO6.form; cases e6; have HR6 := hidIt R6; clear k6 hO6 R6; have b0 := BY6.out.c0; have b1 := BY6.out.c1; have b2 := BY6.out.c2)
          | (go_at_call 8; refine (CE.out _ _ _ _ _ HQ6.out HR6.out).mono ?_; rintro e w7 ⟨rfl, k7⟩; have HB7 := hidIt (HB6.out.trans (k7.mono HB6.out.size)); clear k7))
        all_goals
          go_wp2_with (fail)
          go_ret
          exact ⟨rfl, HB7.out⟩

set_option maxRecDepth 100000 in
theorem lifted (os : Os) (started : os.Started) (H : Type) (enc : TypeId × Value → H) :
    ReturnsInHanded {} Try.checked os 3 .any (Rows.fnExactProvesSpec.pre6 enc Try.prog Try.f3 Rows.fnExactProvesRow.domain false) (Rows.fnExactProvesSpec.post enc Try.prog Try.f3 false true false false) := by
  refine returnsInHanded_of_change (C := Try.checked) own started (by kernel_rfl) Try.func3
    (ChangeSpec.witness6 (enc := enc) (C := Try.checked) false ⟨#[], #[.agg #[.string ByteArray.empty, .string ByteArray.empty, .slice none 0 0], .string ByteArray.empty, .string ByteArray.empty, .int .i64 0], []⟩ 8 (by kernel_rfl) (by kernel_rfl) (by kernel_rfl) (by kernel_rfl)) ?_
  intro W base args ds gs before hval0 hW hcnd _
  have hval : ∀ (j : Nat) t v, Try.f3.params[j]? = some t → args[j]? = some v → Value.okWide Try.prog W .any base t v := hval0
  have hW' := hW
  obtain ⟨p, q, hA0, hV, rfl, hfz, hnd⟩ := hW
  have hA : DataW.TrodAll enc Try.prog W 0 (fun _ => true) true Try.f3.params.toList args.toList ds p := hA0
  rw [Try.params3] at hA hval
  obtain ⟨v0, vs0, d0, ds0, p0, q0, hargs, rfl, rfl, h0, r0⟩ := trodAll_cons hA
  obtain ⟨v1, vs1, d1, ds1, p1, q1, rfl, rfl, rfl, h1, r1⟩ := trodAll_cons r0
  obtain ⟨v2, vs2, d2, ds2, p2, q2, rfl, rfl, rfl, h2, r2⟩ := trodAll_cons r1
  obtain ⟨v3, vs3, d3, ds3, p3, q3, rfl, rfl, rfl, h3, r3⟩ := trodAll_cons r2
  obtain ⟨rfl, rfl, rfl⟩ := trodAll_nil r3
  obtain rfl : args = #[v0, v1, v2, v3] := by cases args; simp_all
  obtain ⟨rfl, rfl⟩ := trodVars_none hV
  have k0 := h0
  have lt0 : ∀ x ∈ p0, x.block < W.heap.size := by obtain ⟨m, hm⟩ := k0; exact DataW.trod_lt m _ _ _ hm
  have k1 := h1
  have lt1 : ∀ x ∈ p1, x.block < W.heap.size := by obtain ⟨m, hm⟩ := k1; exact DataW.trod_lt m _ _ _ hm
  have k2 := h2
  have lt2 : ∀ x ∈ p2, x.block < W.heap.size := by obtain ⟨m, hm⟩ := k2; exact DataW.trod_lt m _ _ _ hm
  have k3 := h3
  have lt3 : ∀ x ∈ p3, x.block < W.heap.size := by obtain ⟨m, hm⟩ := k3; exact DataW.trod_lt m _ _ _ hm
  obtain ⟨s0, u0, a0, cap0, L0, rfl, ws0, wu0, w0⟩ := Zn.open_deny Try.underlying24 (by kernel_rfl) rfl rfl rfl (by kernel_rfl) (by kernel_rfl) (by kernel_rfl) Try.underlying9 Try.underlying9 Try.underlying22 Try.underlying2 (by kernel_rfl) (hval 0 24 v0 rfl rfl) h0
  obtain ⟨s1, rfl, rfl, rfl, ws1⟩ := Go.ChangeMaps.open_string Try.underlying9 (hval 1 9 v1 rfl rfl) h1
  obtain ⟨s2, rfl, rfl, rfl, ws2⟩ := Go.ChangeMaps.open_string Try.underlying9 (hval 2 9 v2 rfl rfl) h2
  obtain ⟨n3, rfl, rfl, rfl, wn3⟩ := open_int Try.underlying2 (hval 3 2 v3 rfl rfl) h3
  clear hA0 hval0
  refine (walk s0 u0 a0 cap0 L0 ws0 wu0 s1 ws1 s2 ws2 n3 W w0).mono fun e W' ⟨he, bel⟩ => ?_
  subst he
  exact ⟨_, rfl, _, _, _, [], _, [], hW', trodAll_mk1 (shut_bool Try.underlying4 _), (trodAll_cons_mk (Below.trod laidOut (by kernel_rfl) (of_decide_eq_true (by kernel_rfl)) k0 bel lt0) (trodAll_cons_mk (Below.trod laidOut (by kernel_rfl) (of_decide_eq_true (by kernel_rfl)) k1 bel lt1) (trodAll_cons_mk (Below.trod laidOut (by kernel_rfl) (of_decide_eq_true (by kernel_rfl)) k2 bel lt2) (trodAll_cons_mk (Below.trod laidOut (by kernel_rfl) (of_decide_eq_true (by kernel_rfl)) k3 bel lt3) trodAll_mk0)))), rfl, bel.frame _, fun h => by cases h⟩

theorem over : Rows.fnExactProvesRow.holds Try.pinned (OpenSpec.ofChange Rows.fnExactProvesSpec) :=
  OpenClaim.holds_of_wide 3 Try.f3 rfl rfl rfl rfl rfl rfl rfl ⟨rfl, rfl, rfl, rfl, rfl⟩ rfl rfl rfl rfl rfl (by kernel_rfl) Try.func3 (by kernel_rfl)
    (of_decide_eq_true (by kernel_rfl)) (by unfold Func.isWrapper; first | (rw [if_pos (by decide +kernel)]; kernel_rfl) | (rw [if_neg (by decide +kernel)]; exact ⟨rfl, rfl⟩))
    (fun os started H enc _ => lifted os started H enc)
end Go.Proofs.Ytkclfnmhiojklaa.fnExactProves
namespace Go.Proofs.Ytkclfnmhiojklaa
theorem fnExactProves_holds : Rows.FnExactProvesSaid := fnExactProves.over
#print axioms fnExactProves_holds
end Go.Proofs.Ytkclfnmhiojklaa
