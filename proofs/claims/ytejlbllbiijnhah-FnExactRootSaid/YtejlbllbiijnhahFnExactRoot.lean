/-
  FnExactRoot answers true at every int64 and leaves its argument as it was: Root of the program answers as the specification's. No condition.
-/
import Derived.Test.YtejlbllbiijnhahRows
import Derived.WalkKit
import Derived.ProofKit
import Derived.OpenShut
import Derived.Test.YtejlbllbiijnhahField
namespace Go.Proofs.Ytejlbllbiijnhah.fnExactRoot
open Go.ChangeShapes Go.WideShapes Go.ChangeAt Go.RowKit
set_option linter.unusedVariables false

theorem own : ownKnob Try.prog.godebug = none := by kernel_rfl

set_option maxRecDepth 100000 in
set_option maxHeartbeats 1600000 in

theorem walk (a0 : Int) (w0 : (Lit.int .i64 a0).wf = true) (w : World) :
    Calls Try.prog 3 #[.int .i64 a0] w fun e w' => e = .returned (.bool true) ∧ Grown w w' := by
  by_cases h0 : 0 ≤ a0
  · by_cases h1 : a0 < 10007
    · have h1' : a0 ≤ 10006 := by omega
      obtain ⟨a, rfl⟩ := Int.eq_ofNat_of_zero_le h0
      have ha : a < 10007 := by omega
      have hq := Pl.pw_lt a 2502
      have L1 := fun w => Fd.l1Power_any a 2502 w ha (by decide)
      have L2 := fun w => Fd.power_any a 2502 w ha (by decide)
      generalize Pl.pw a 2502 = q at hq L1 L2
      have b2 := Fd.mul_le q q hq hq
      have HL1 : Hid (∀ w, Calls Try.prog 7 #[.int .i64 a, .int .i64 2502] w fun e w' => e = .returned (.int .i64 q) ∧ w' = w) := L1
      have HL2 : Hid (∀ w, Calls Try.prog 12 #[.int .i64 a, .int .i64 2502] w fun e w' => e = .returned (.int .i64 q) ∧ w' = w) := L2
      clear L1 L2
      by_cases hr : q * q % 10007 = a
      · have e1 : ((q : Int) * (q : Int) % 10007 != (a : Int)) = false := by rw [Fd.cast_mul_mod, hr]; simp
        clear hr
        by_cases z : q = 0
        · subst z
          go_enter Try.func3, Try.ntmps3
          go_wp2_with (first | (go_at_call 7; refine (HL1.out _).mono ?_; rintro e w' ⟨rfl, rfl⟩) | (go_at_call 12; refine (HL2.out _).mono ?_; rintro e w' ⟨rfl, rfl⟩) | go_in)
          go_ret
          exact ⟨rfl, Grown.refl _⟩
        · by_cases l : (q : Int) < 10007 - q
          · have l1 : (10007 - (q : Int)) % 10007 = 10007 - q := by omega
            have l2 : -(q : Int) % 10007 = 10007 - q := by omega
            go_enter Try.func3, Try.ntmps3
            go_wp2_with (first | (go_at_call 7; refine (HL1.out _).mono ?_; rintro e w' ⟨rfl, rfl⟩) | (go_at_call 12; refine (HL2.out _).mono ?_; rintro e w' ⟨rfl, rfl⟩) | go_in)
            go_ret
            exact ⟨rfl, Grown.refl _⟩
          · have l1 : (10007 - (q : Int)) % 10007 = 10007 - q := by omega
            have l2 : -(q : Int) % 10007 = 10007 - q := by omega
            go_enter Try.func3, Try.ntmps3
            go_wp2_with (first | (go_at_call 7; refine (HL1.out _).mono ?_; rintro e w' ⟨rfl, rfl⟩) | (go_at_call 12; refine (HL2.out _).mono ?_; rintro e w' ⟨rfl, rfl⟩) | go_in)
            go_ret
            exact ⟨rfl, Grown.refl _⟩
      · have e1 : ((q : Int) * (q : Int) % 10007 != (a : Int)) = true := by rw [Fd.cast_mul_mod]; simp; omega
        clear hr
        go_enter Try.func3, Try.ntmps3
        go_wp2_with (first | (go_at_call 7; refine (HL1.out _).mono ?_; rintro e w' ⟨rfl, rfl⟩) | (go_at_call 12; refine (HL2.out _).mono ?_; rintro e w' ⟨rfl, rfl⟩) | go_in)
        go_ret
        exact ⟨rfl, Grown.refl _⟩
    · have h1' : ¬ a0 ≤ 10006 := by omega
      go_enter Try.func3, Try.ntmps3
      go_wp2
      go_ret
      exact ⟨rfl, Grown.refl _⟩
  · go_enter Try.func3, Try.ntmps3
    go_wp2
    go_ret
    exact ⟨rfl, Grown.refl _⟩

set_option maxRecDepth 100000 in
theorem lifted (os : Os) (started : os.Started) (H : Type) (enc : TypeId × Value → H) :
    ReturnsInHanded {} Try.checked os 3 .any (Rows.fnExactRootSpec.pre6 enc Try.prog Try.f3 Rows.fnExactRootRow.domain false) (Rows.fnExactRootSpec.post enc Try.prog Try.f3 false true false false) := by
  refine returnsInHanded_of_change (C := Try.checked) own started (by kernel_rfl) Try.func3
    (ChangeSpec.witness6 (enc := enc) (C := Try.checked) false ⟨#[], #[.int .i64 0], []⟩ 8 (by kernel_rfl) (by kernel_rfl) (by kernel_rfl) (by kernel_rfl)) ?_
  intro W base args ds gs before hval0 hW hcnd _
  have hval : ∀ (j : Nat) t v, Try.f3.params[j]? = some t → args[j]? = some v → Value.okWide Try.prog W .any base t v := hval0
  have hW' := hW
  obtain ⟨p, q, hA0, hV, rfl, hfz, hnd⟩ := hW
  have hA : DataW.TrodAll enc Try.prog W 0 (fun _ => true) true Try.f3.params.toList args.toList ds p := hA0
  rw [Try.params3] at hA hval
  obtain ⟨v0, vs0, d0, ds0, p0, q0, hargs, rfl, rfl, h0, r0⟩ := trodAll_cons hA
  obtain ⟨rfl, rfl, rfl⟩ := trodAll_nil r0
  obtain rfl : args = #[v0] := by cases args; simp_all
  obtain ⟨rfl, rfl⟩ := trodVars_none hV
  obtain ⟨a0, rfl, rfl, rfl, w0⟩ := open_int Try.underlying2 (hval 0 2 v0 rfl rfl) h0
  clear hA0 hval0
  simp only [List.append_nil] at hW'
  refine (walk a0 w0 W).mono fun e W' ⟨he, hg⟩ => ?_
  subst he
  exact ⟨_, rfl, post_of_same (pa := []) (pv := []) hW' (fun _ _ _ => (trodAll_cons_mk (shut_bool Try.underlying4 _) trodAll_mk0)) (fun sp _ => (trodAll_cons_mk (shut_int Try.underlying2 w0) trodAll_mk0)) (fun _ _ => rfl) rfl
    (hg.frame _) hg.2.1 (ok_one (by kernel_rfl) rfl (okWide_bool_mk Try.underlying4 _))⟩

theorem over : Rows.fnExactRootRow.holds Try.pinned (OpenSpec.ofChange Rows.fnExactRootSpec) :=
  OpenClaim.holds_of_wide 3 Try.f3 rfl rfl rfl rfl rfl rfl rfl ⟨rfl, rfl, rfl, rfl, rfl⟩ rfl rfl rfl rfl rfl (by kernel_rfl) Try.func3 (by kernel_rfl)
    (of_decide_eq_true (by kernel_rfl)) (by unfold Func.isWrapper; first | (rw [if_pos (by decide +kernel)]; kernel_rfl) | (rw [if_neg (by decide +kernel)]; exact ⟨rfl, rfl⟩))
    (fun os started H enc _ => lifted os started H enc)
end Go.Proofs.Ytejlbllbiijnhah.fnExactRoot
namespace Go.Proofs.Ytejlbllbiijnhah
theorem fnExactRoot_holds : Rows.FnExactRootSaid := fnExactRoot.over
#print axioms fnExactRoot_holds
end Go.Proofs.Ytejlbllbiijnhah
