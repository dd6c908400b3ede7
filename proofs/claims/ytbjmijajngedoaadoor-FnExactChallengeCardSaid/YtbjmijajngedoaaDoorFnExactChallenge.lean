/-
  FnExactChallenge answers true at every two Points and every text and leaves them as they were: Challenge of the program answers as the specification's. No condition but that the library's table of powers of ten lies as its text lays it.
-/
import Derived.Test.YtbjmijajngedoaaDoorRows
import Derived.WalkKit
import Derived.ProofKit
import Derived.OpenShut
import Derived.ShutString
import Derived.ChangeOld
import Derived.Below
import Derived.Lib.SmallJoins
import Derived.Test.YtbjmijajngedoaaDoorDoorMet
import Derived.Test.YtbjmijajngedoaaDoorTie
import Derived.Test.YtbjmijajngedoaaDoorCards
import Derived.LaidMore
import Derived.Stop.Joined
import Derived.SevenTiedAt
import Derived.Test.YtbjmijajngedoaaDoorLawD
import Derived.Test.YtbjmijajngedoaaDoorSignC
import Derived.Deep.RegionHeld3
namespace Go.Proofs.YtbjmijajngedoaaDoor.fnExactChallenge
open Go.ChangeShapes Go.WideShapes Go.ChangeAt Go.RowKit Go.Joins
set_option linter.unusedVariables false

theorem own : ownKnob Tryd.prog.godebug = none := by kernel_rfl
theorem laidOut : laidOutB Tryd.prog = true := by kernel_rfl
theorem cells46 : Tryd.prog.cellsOf 46 = 2 := by kernel_rfl
open Cv Cu Sg
/-- Both answer alike: the challenge, or -1. -/
theorem both (x y p q : Int) (s : ByteArray) (hs : s.size ≤ 1048576) : ∃ c : Int, (∀ w, Calls Tryd.prog 16 #[.agg #[.int .i64 x, .int .i64 y], .agg #[.int .i64 p, .int .i64 q], .string s] w fun e w' => e = .returned (.int .i64 c) ∧ Below w.heap.size w w') ∧ (∀ w, Tab w → Calls Tryd.prog 15 #[.agg #[.int .i64 x, .int .i64 y], .agg #[.int .i64 p, .int .i64 q], .string s] w fun e w' => e = .returned (.int .i64 c) ∧ Below w.heap.size w w') := by
  by_cases h : okI x y = true
  · obtain ⟨a, b, rfl, rfl, h1⟩ := okI_nat h
    by_cases h2 : okI p q = true
    · obtain ⟨c, d, rfl, rfl, h3⟩ := okI_nat h2
      exact ⟨_, fun w => spec_Challenge_yes a b c d s w h1 h3 (by omega), fun w t => impl_Challenge_yes a b c d s w h1 h3 (by omega) t⟩
    · have h' : okI p q = false := by simpa using h2
      exact ⟨-1, fun w => spec_Challenge_no a b p q s w (.inr ⟨h, h'⟩), fun w _ => impl_Challenge_no a b p q s w (.inr ⟨h, h'⟩)⟩
  · have h' : okI x y = false := by simpa using h
    exact ⟨-1, fun w => spec_Challenge_no x y p q s w (.inl h'), fun w _ => impl_Challenge_no x y p q s w (.inl h')⟩
set_option maxRecDepth 100000 in
set_option maxHeartbeats 8000000 in

theorem walk (x0 y0 : Int) (x1 y1 : Int) (s2 : ByteArray) (ws2 : s2.size ≤ maxLen) (w : World) (htab : Sg.Tab w) :
    Calls Tryd.prog 4 #[.agg #[.int .i64 x0, .int .i64 y0], .agg #[.int .i64 x1, .int .i64 y1], .string s2] w fun e w' => e = .returned (.bool true) ∧ Below w.heap.size w w' := by
  by_cases hb : 1048576 < s2.size
  · have hb' : (1048576 : Int) < (s2.size : Int) := by omega
    go_enter Tryd.func4, Tryd.ntmps4
    go_wp2
    go_ret
    exact ⟨rfl, ((Below.refl w.heap.size w).alloc (Nat.le_refl _) _).alloc (by simp) _⟩
  · have hb' : ¬ (1048576 : Int) < (s2.size : Int) := by omega
    obtain ⟨c, c1, c2⟩ := both x0 y0 x1 y1 s2 (by omega)
    have C1 := Hid.mk' c1
    have C2 := Hid.mk' c2
    have HT := Hid.mk' htab
    have hcc : (c != c) = false := by simp
    clear c1 c2 htab
    go_enter Tryd.func4, Tryd.ntmps4
    go_upto_region 3 with fail
    have hF : ((w.alloc (.cells #[.int .i64 x0, .int .i64 y0] 46)).alloc (.cells #[.int .i64 x1, .int .i64 y1] 46)).cell? ⟨w.heap.size, 0, none⟩ = some (.int .i64 x0) ∧ ((w.alloc (.cells #[.int .i64 x0, .int .i64 y0] 46)).alloc (.cells #[.int .i64 x1, .int .i64 y1] 46)).cell? ⟨w.heap.size, 1, none⟩ = some (.int .i64 y0) ∧ ((w.alloc (.cells #[.int .i64 x0, .int .i64 y0] 46)).alloc (.cells #[.int .i64 x1, .int .i64 y1] 46)).cell? ⟨w.heap.size + 1, 0, none⟩ = some (.int .i64 x1) ∧ ((w.alloc (.cells #[.int .i64 x0, .int .i64 y0] 46)).alloc (.cells #[.int .i64 x1, .int .i64 y1] 46)).cell? ⟨w.heap.size + 1, 1, none⟩ = some (.int .i64 y1) := by
      have t0 := (Tw.newAt (w := w) (x := x0) (y := y0) (T := 46) rfl).old (o := .cells #[.int .i64 x1, .int .i64 y1] 46)
      have t1 := Tw.newAt (w := w.alloc (.cells #[.int .i64 x0, .int .i64 y0] 46)) (x := x1) (y := y1) (T := 46) (k := w.heap.size + 1) (by simp)
      exact ⟨t0.c0, t0.c1, t1.c0, t1.c1⟩
    have hB : Below w.heap.size w ((w.alloc (.cells #[.int .i64 x0, .int .i64 y0] 46)).alloc (.cells #[.int .i64 x1, .int .i64 y1] 46)) := ((Below.refl w.heap.size w).alloc (Nat.le_refl _) _).alloc (by simp) _
    have hl : w.heap.size + 1 < ((w.alloc (.cells #[.int .i64 x0, .int .i64 y0] 46)).alloc (.cells #[.int .i64 x1, .int .i64 y1] 46)).heap.size := by simp
    generalize (w.alloc (.cells #[.int .i64 x0, .int .i64 y0] 46)).alloc (.cells #[.int .i64 x1, .int .i64 y1] 46) = wz at hF hB hl ⊢
    have hF' := hF
    obtain ⟨f0, f1, f2, f3⟩ := hF'
    go_region_held3 (fun w' => w'.cell? ⟨w.heap.size, 0, none⟩ = some (.int .i64 x0) ∧ w'.cell? ⟨w.heap.size, 1, none⟩ = some (.int .i64 y0) ∧ w'.cell? ⟨w.heap.size + 1, 0, none⟩ = some (.int .i64 x1) ∧ w'.cell? ⟨w.heap.size + 1, 1, none⟩ = some (.int .i64 y1))
      (first | assumption | exact ⟨f0, f1, f2, f3⟩ | (with_reducible refine held_kept hbC (by assumption) ?_; omega) | (with_reducible refine held_kept hbB (by assumption) ?_; omega) | (with_reducible refine held_kept_drew hbA (by assumption) ?_; omega) | (with_reducible refine held_kept_drew hbA ⟨f0, f1, f2, f3⟩ ?_; omega) | go_keep)
      (first
        | (go_at_call 25; (with_reducible refine (toPoint_any x0 y0 _).mono ?_); rintro e wA ⟨rfl, hbA⟩; have zA : wz.heap.size ≤ wA.heap.size := hbA.size; have bA := below_next (w0 := w) (by first | assumption | exact Below.drew (by assumption)) hbA)
        | (go_at_call 25; (with_reducible refine (toPoint_any x1 y1 _).mono ?_); rintro e wB ⟨rfl, hbB⟩; have zB := hbB.size; have bB := below_next (w0 := w) (by first | assumption | exact Below.drew (by assumption)) hbB)
        | (go_at_call 16; refine (C1.out _).mono ?_; rintro e wC ⟨rfl, hbC⟩; have zC := hbC.size; have bC := below_next (w0 := w) (by first | assumption | exact Below.drew (by assumption)) hbC))
    have hG : wC.cell? ⟨w.heap.size, 0, none⟩ = some (.int .i64 x0) ∧ wC.cell? ⟨w.heap.size, 1, none⟩ = some (.int .i64 y0) ∧ wC.cell? ⟨w.heap.size + 1, 0, none⟩ = some (.int .i64 x1) ∧ wC.cell? ⟨w.heap.size + 1, 1, none⟩ = some (.int .i64 y1) := by assumption
    have hG' := hG
    obtain ⟨g0, g1, g2, g3⟩ := hG'
    have hl2 : w.heap.size + 1 < wC.heap.size := by omega
    clear f0 f1 f2 f3 hF hbA hbB hbC zA zB zC bA bB
    go_upto_region 4 with fail
    go_region_held3 (fun w' => w'.cell? ⟨w.heap.size, 0, none⟩ = some (.int .i64 x0) ∧ w'.cell? ⟨w.heap.size, 1, none⟩ = some (.int .i64 y0) ∧ w'.cell? ⟨w.heap.size + 1, 0, none⟩ = some (.int .i64 x1) ∧ w'.cell? ⟨w.heap.size + 1, 1, none⟩ = some (.int .i64 y1))
      (first | assumption | exact ⟨g0, g1, g2, g3⟩ | (with_reducible refine held_kept hbF (by assumption) ?_; omega) | (with_reducible refine held_kept hbE (by assumption) ?_; omega) | (with_reducible refine held_kept_drew hbD (by assumption) ?_; omega) | (with_reducible refine held_kept_drew hbD ⟨g0, g1, g2, g3⟩ ?_; omega) | go_keep)
      (first
        | (go_at_call 25; (with_reducible refine (toPoint_any x0 y0 _).mono ?_); rintro e wD ⟨rfl, hbD⟩; have zD : wC.heap.size ≤ wD.heap.size := hbD.size; have bD := below_next (w0 := w) (by first | assumption | exact Below.drew (by assumption)) hbD)
        | (go_at_call 25; (with_reducible refine (toPoint_any x1 y1 _).mono ?_); rintro e wE ⟨rfl, hbE⟩; have zE := hbE.size; have bE := below_next (w0 := w) (by first | assumption | exact Below.drew (by assumption)) hbE)
        | (go_at_call 15; refine (C2.out _ (HT.out.kept bE)).mono ?_; rintro e wF ⟨rfl, hbF⟩; have zF := hbF.size; have bF := below_next (w0 := w) (by first | assumption | exact Below.drew (by assumption)) hbF))
    go_wp2_with (fail)
    go_ret
    exact ⟨rfl, bF⟩

theorem door_met (os : Os) (args : Array Value) : laidMetH Tryd.prog Rows.fnExactChallengeRow.laid ((World.doorLaid Tryd.prog 24 os).forCall (fun _ _ => 0) ⟨#[], args, []⟩).memory :=
  laidMetH_of_parts3 (fuel := 8) (laidMet_of_run' 8 (by kernel_rfl) (by kernel_rfl)) (by kernel_rfl) (by kernel_rfl)
set_option maxRecDepth 100000 in
theorem lifted (os : Os) (started : os.Started) (H : Type) (enc : TypeId × Value → H) :
    ReturnsInHanded {} Tryd.checked os 4 .any (fun w args => (Rows.fnExactChallengeSpec.pre enc Tryd.prog Tryd.f4 [] false w args ∧ laidMetH Tryd.prog Rows.fnExactChallengeRow.laid w) ∧ sizedMet enc Tryd.prog Tryd.f4 (OpenSpec.ofChange Rows.fnExactChallengeSpec) false w args) (Rows.fnExactChallengeSpec.post enc Tryd.prog Tryd.f4 false true false false) := by
  refine returnsInHanded_of_change_and (C := Tryd.checked) (X := fun w _ => laidMetH Tryd.prog Rows.fnExactChallengeRow.laid w) (fun _ _ _ hh h => h.of_heap hh) own started (by kernel_rfl) Tryd.func4
    (ChangeSpec.witness_shaped (enc := enc) (C := Tryd.checked) (os := os) (X := fun w _ => laidMetH Tryd.prog Rows.fnExactChallengeRow.laid w) false (World.doorLaid Tryd.prog 24 os) #[.agg #[.int .i64 0, .int .i64 0], .agg #[.int .i64 0, .int .i64 0], .string ByteArray.empty] 8 rfl (World.shaped_of_RefB (by kernel_rfl) (by kernel_rfl)) (by kernel_rfl) (by kernel_rfl) (by kernel_rfl) (door_met os _)) ?_
  intro W base args ds gs before hval0 hW _ _ hL _
  have hval : ∀ (j : Nat) t v, Tryd.f4.params[j]? = some t → args[j]? = some v → Value.okWide Tryd.prog W .any base t v := hval0
  have hW' := hW
  obtain ⟨p, q, hA0, hV, rfl, hfz, hnd⟩ := hW
  have hA : DataW.TrodAll enc Tryd.prog W 0 (fun _ => true) true Tryd.f4.params.toList args.toList ds p := hA0
  rw [Tryd.params4] at hA hval
  obtain ⟨v0, vs0, d0, ds0, p0, q0, hargs, rfl, rfl, h0, r0⟩ := trodAll_cons hA
  obtain ⟨v1, vs1, d1, ds1, p1, q1, rfl, rfl, rfl, h1, r1⟩ := trodAll_cons r0
  obtain ⟨v2, vs2, d2, ds2, p2, q2, rfl, rfl, rfl, h2, r2⟩ := trodAll_cons r1
  obtain ⟨rfl, rfl, rfl⟩ := trodAll_nil r2
  obtain rfl : args = #[v0, v1, v2] := by cases args; simp_all
  obtain ⟨rfl, rfl⟩ := trodVars_none hV
  have k0 := h0
  have lt0 : ∀ x ∈ p0, x.block < W.heap.size := by obtain ⟨m, hm⟩ := k0; exact DataW.trod_lt m _ _ _ hm
  have k1 := h1
  have lt1 : ∀ x ∈ p1, x.block < W.heap.size := by obtain ⟨m, hm⟩ := k1; exact DataW.trod_lt m _ _ _ hm
  have k2 := h2
  have lt2 : ∀ x ∈ p2, x.block < W.heap.size := by obtain ⟨m, hm⟩ := k2; exact DataW.trod_lt m _ _ _ hm
  obtain ⟨cx0, cy0, dx0, dy0, m0, rfl, rfl, rfl, hx0, hy0⟩ := open_agg2 Tryd.underlying46 (by kernel_rfl) cells46 (hval 0 46 v0 rfl rfl) h0
  obtain ⟨x0, ex0, rfl, wx0⟩ := DataW.trod_int Tryd.underlying2 hx0
  obtain ⟨y0, ey0, rfl, wy0⟩ := DataW.trod_int Tryd.underlying2 hy0
  simp at ex0 ey0
  subst ex0 ey0
  obtain ⟨cx1, cy1, dx1, dy1, m1, rfl, rfl, rfl, hx1, hy1⟩ := open_agg2 Tryd.underlying46 (by kernel_rfl) cells46 (hval 1 46 v1 rfl rfl) h1
  obtain ⟨x1, ex1, rfl, wx1⟩ := DataW.trod_int Tryd.underlying2 hx1
  obtain ⟨y1, ey1, rfl, wy1⟩ := DataW.trod_int Tryd.underlying2 hy1
  simp at ex1 ey1
  subst ex1 ey1
  obtain ⟨s2, rfl, rfl, rfl, ws2⟩ := Go.ChangeMaps.open_string Tryd.underlying9 (hval 2 9 v2 rfl rfl) h2
  clear hA0 hval0
  refine (walk x0 y0 x1 y1 s2 ws2 W (Sg.tab_of_laid hL)).mono fun e W' ⟨he, bel⟩ => ?_
  subst he
  exact ⟨_, rfl, _, _, _, [], _, [], hW', trodAll_mk1 (shut_bool Tryd.underlying4 _), (trodAll_cons_mk (Below.trod laidOut (by kernel_rfl) (of_decide_eq_true (by kernel_rfl)) k0 bel lt0) (trodAll_cons_mk (Below.trod laidOut (by kernel_rfl) (of_decide_eq_true (by kernel_rfl)) k1 bel lt1) (trodAll_cons_mk (Below.trod laidOut (by kernel_rfl) (of_decide_eq_true (by kernel_rfl)) k2 bel lt2) trodAll_mk0))), rfl, bel.frame _, fun h => by cases h⟩

theorem over : Rows.fnExactChallengeRow.holds Tryd.pinned (OpenSpec.ofChange Rows.fnExactChallengeSpec) :=
  OpenClaim.holds_of_wide 4 Tryd.f4 rfl rfl rfl rfl rfl rfl rfl ⟨rfl, rfl, rfl, rfl, rfl⟩ rfl rfl rfl rfl rfl (by kernel_rfl) Tryd.func4 (by kernel_rfl)
    (of_decide_eq_true (by kernel_rfl)) (by unfold Func.isWrapper; first | (rw [if_pos (by decide +kernel)]; kernel_rfl) | (rw [if_neg (by decide +kernel)]; exact ⟨rfl, rfl⟩))
    (fun os started H enc _ => lifted os started H enc)
theorem card : Rows.FnExactChallengeCardSaid :=
  Claim7.holds_tied_plain_at .later [] [.data, .data, .data] true (true, "b5c8ee19ed266ba7e0c4cef473e607b58437db1abacc6038f89b18b326210750") false
    over (fun _ h => by cases h) (by kernel_rfl) (fun _ h => by cases h) fnExactChallenge_row_tie rfl ⟨rfl, rfl⟩ (by kernel_rfl) rfl
    (fun f fn hf hfn => by
      obtain rfl : f = 4 := Option.some.inj ((show Tryd.prog.funcNamed "loop.example/g00307/laws.FnExactChallenge" = some 4 by kernel_rfl).symm.trans hf) |>.symm
      obtain rfl : fn = Tryd.f4 := (Option.some.inj (Tryd.func4.symm.trans hfn)).symm
      exact ⟨by kernel_rfl, fun j t ht => by
        rw [Tryd.params4] at ht
        have hm : t ∈ [46, 9] := by simpa using Array.mem_of_getElem? ht
        have hall : ([46, 9].all fun u => !Tryd.prog.wantsStandIn u) = true := by kernel_rfl
        exact (show Tryd.prog.wantsStandIn t = false by simpa using List.all_eq_true.1 hall t hm)⟩)
    (by kernel_rfl)
end Go.Proofs.YtbjmijajngedoaaDoor.fnExactChallenge
namespace Go.Proofs.YtbjmijajngedoaaDoor
theorem fnExactChallenge_holds : Rows.FnExactChallengeCardSaid := fnExactChallenge.card
#print axioms fnExactChallenge_holds
end Go.Proofs.YtbjmijajngedoaaDoor
