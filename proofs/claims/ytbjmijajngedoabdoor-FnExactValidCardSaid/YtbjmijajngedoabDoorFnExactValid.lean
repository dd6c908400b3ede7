/-
  FnExactValid answers true at every Point, every text and every Sig and leaves them as they were: Valid of the program answers as the specification's. No condition but that the library's table of powers of ten lies as its text lays it.
-/
import Derived.Test.YtbjmijajngedoabDoorRows
import Derived.WalkKit
import Derived.ProofKit
import Derived.OpenShut
import Derived.ShutString
import Derived.ChangeOld
import Derived.Below
import Derived.Lib.SmallJoins
import Derived.Test.YtbjmijajngedoabDoorDoorMet
import Derived.Test.YtbjmijajngedoabDoorTie
import Derived.Test.YtbjmijajngedoabDoorCards
import Derived.LaidMore
import Derived.Stop.Joined
import Derived.SevenTiedAt
import Derived.Test.YtbjmijajngedoabDoorLawD
import Derived.Test.YtbjmijajngedoabDoorSignX
import Derived.Deep.RegionHeld3
namespace Go.Proofs.YtbjmijajngedoabDoor.fnExactValid
open Go.ChangeShapes Go.WideShapes Go.ChangeAt Go.RowKit Go.Joins
set_option linter.unusedVariables false

theorem own : ownKnob Tryd.prog.godebug = none := by kernel_rfl
theorem laidOut : laidOutB Tryd.prog = true := by kernel_rfl
theorem cells2 : Tryd.prog.cellsOf 2 = 1 := by kernel_rfl
theorem cells23 : Tryd.prog.cellsOf 23 = 2 := by kernel_rfl
theorem cells25 : Tryd.prog.cellsOf 25 = 3 := by kernel_rfl
theorem open_sig {H : Type} {enc : TypeId × Value → H} {w : World} {r : Reach} {b0 base : Nat} {spare : Nat → Bool} {held : Bool} {v : Value} {d : DataW H} {p : List MemPlace} (hv : Value.okWide Tryd.prog w r b0 25 v) (h : DataW.Trod enc Tryd.prog w base spare held 25 v d p) :
    ∃ x y t : Int, v = .agg #[.int .i64 x, .int .i64 y, .int .i64 t] := by
  obtain ⟨cs, rfl, hsz⟩ := okWide_struct Tryd.underlying25 hv
  obtain ⟨c0, c1, c2, rfl⟩ := Go.Joins.array3 (hsz.trans cells25)
  obtain ⟨fuel, hf⟩ := h
  obtain ⟨y0, y1, n, _, _, h0, h1⟩ := trod_struct2 Tryd.underlying25 hf
  obtain ⟨z0, z1, m, _, _, g0, g1⟩ := trod_struct2 Tryd.underlying23 h0
  obtain ⟨x, ex, _, _⟩ := DataW.trod_int Tryd.underlying2 g0
  obtain ⟨y, ey, _, _⟩ := DataW.trod_int Tryd.underlying2 g1
  obtain ⟨t, et, _, _⟩ := DataW.trod_int Tryd.underlying2 h1
  simp [Value.cells, cells23, cells2] at ex ey et
  subst ex ey et
  exact ⟨x, y, t, rfl⟩

open Cv Cu Sg
set_option maxRecDepth 100000 in
set_option maxHeartbeats 8000000 in

theorem walk (x0 y0 : Int) (s1 : ByteArray) (ws1 : s1.size ≤ maxLen) (x2 y2 t2 : Int) (w : World) (htab : Sg.Tab w) :
    Calls Tryd.prog 3 #[.agg #[.int .i64 x0, .int .i64 y0], .string s1, .agg #[.int .i64 x2, .int .i64 y2, .int .i64 t2]] w fun e w' => e = .returned (.bool true) ∧ Below w.heap.size w w' := by
  by_cases hb : 1048576 < s1.size
  · have hb' : (1048576 : Int) < (s1.size : Int) := by omega
    go_enter Tryd.func3, Tryd.ntmps3
    go_wp2
    go_ret
    exact ⟨rfl, ((Below.refl w.heap.size w).alloc (Nat.le_refl _) _).alloc (by simp) _⟩
  · have hb' : ¬ (1048576 : Int) < (s1.size : Int) := by omega
    obtain ⟨f, c1, c2⟩ := valid_both x0 y0 s1 x2 y2 t2 (by omega)
    have C1 := Hid.mk' c1
    have C2 := Hid.mk' c2
    have HT := Hid.mk' htab
    have hff : (f != f) = false := by simp
    clear c1 c2 htab
    go_enter Tryd.func3, Tryd.ntmps3
    go_upto_region 3 with fail
    have hF := five_new w x0 y0 x2 y2 t2 23 25
    have hB : Below w.heap.size w ((w.alloc (.cells #[.int .i64 x0, .int .i64 y0] 23)).alloc (.cells #[.int .i64 x2, .int .i64 y2, .int .i64 t2] 25)) := ((Below.refl w.heap.size w).alloc (Nat.le_refl _) _).alloc (by simp) _
    have hl : w.heap.size + 1 < ((w.alloc (.cells #[.int .i64 x0, .int .i64 y0] 23)).alloc (.cells #[.int .i64 x2, .int .i64 y2, .int .i64 t2] 25)).heap.size := by simp
    generalize (w.alloc (.cells #[.int .i64 x0, .int .i64 y0] 23)).alloc (.cells #[.int .i64 x2, .int .i64 y2, .int .i64 t2] 25) = wz at hF hB hl ⊢
    obtain ⟨f0, f1, f2, f3, f4⟩ := hF
    go_region_held3 (fun w' => w'.cell? ⟨w.heap.size, 0, none⟩ = some (.int .i64 x0) ∧ w'.cell? ⟨w.heap.size, 1, none⟩ = some (.int .i64 y0) ∧ w'.cell? ⟨w.heap.size + 1, 0, none⟩ = some (.int .i64 x2) ∧ w'.cell? ⟨w.heap.size + 1, 1, none⟩ = some (.int .i64 y2) ∧ w'.cell? ⟨w.heap.size + 1, 2, none⟩ = some (.int .i64 t2))
      (first | assumption | exact ⟨f0, f1, f2, f3, f4⟩ | (with_reducible refine five_kept hbC (by assumption) ?_; omega) | (with_reducible refine five_kept hbB (by assumption) ?_; omega) | (with_reducible refine five_kept_drew hbA (by assumption) ?_; omega) | (with_reducible refine five_kept_drew hbA ⟨f0, f1, f2, f3, f4⟩ ?_; omega) | go_keep)
      (first
        | (go_at_call 5; refine (toPoint_any _ _ _).mono ?_; rintro e wA ⟨rfl, hbA⟩; have zA : wz.heap.size ≤ wA.heap.size := hbA.size; have bA := below_next (w0 := w) (Below.drew hB) hbA)
        | (go_at_call 6; refine (toSig_any _ _ _ _).mono ?_; rintro e wB ⟨rfl, hbB⟩; have zB := hbB.size; have bB := below_next (w0 := w) bA hbB)
        | (go_at_call 4; refine (C1.out _).mono ?_; rintro e wC ⟨rfl, hbC⟩; have zC := hbC.size; have bC := below_next (w0 := w) bB hbC))
    have hG : wC.cell? ⟨w.heap.size, 0, none⟩ = some (.int .i64 x0) ∧ wC.cell? ⟨w.heap.size, 1, none⟩ = some (.int .i64 y0) ∧ wC.cell? ⟨w.heap.size + 1, 0, none⟩ = some (.int .i64 x2) ∧ wC.cell? ⟨w.heap.size + 1, 1, none⟩ = some (.int .i64 y2) ∧ wC.cell? ⟨w.heap.size + 1, 2, none⟩ = some (.int .i64 t2) := by assumption
    obtain ⟨g0, g1, g2, g3, g4⟩ := hG
    have hl2 : w.heap.size + 1 < wC.heap.size := by omega
    clear f0 f1 f2 f3 f4 hbA hbB hbC zA zB zC bA bB
    go_upto_region 4 with fail
    go_region_held3 (fun w' => w'.cell? ⟨w.heap.size, 0, none⟩ = some (.int .i64 x0) ∧ w'.cell? ⟨w.heap.size, 1, none⟩ = some (.int .i64 y0) ∧ w'.cell? ⟨w.heap.size + 1, 0, none⟩ = some (.int .i64 x2) ∧ w'.cell? ⟨w.heap.size + 1, 1, none⟩ = some (.int .i64 y2) ∧ w'.cell? ⟨w.heap.size + 1, 2, none⟩ = some (.int .i64 t2))
      (first | assumption | exact ⟨g0, g1, g2, g3, g4⟩ | (with_reducible refine five_kept hbF (by assumption) ?_; omega) | (with_reducible refine five_kept hbE (by assumption) ?_; omega) | (with_reducible refine five_kept_drew hbD (by assumption) ?_; omega) | (with_reducible refine five_kept_drew hbD ⟨g0, g1, g2, g3, g4⟩ ?_; omega) | go_keep)
      (first
        | (go_at_call 5; refine (toPoint_any _ _ _).mono ?_; rintro e wD ⟨rfl, hbD⟩; have zD : wC.heap.size ≤ wD.heap.size := hbD.size; have bD := below_next (w0 := w) (Below.drew bC) hbD)
        | (go_at_call 6; refine (toSig_any _ _ _ _).mono ?_; rintro e wE ⟨rfl, hbE⟩; have zE := hbE.size; have bE := below_next (w0 := w) bD hbE)
        | (go_at_call 7; refine (C2.out _ (HT.out.kept bE)).mono ?_; rintro e wF ⟨rfl, hbF⟩; have zF := hbF.size; have bF := below_next (w0 := w) bE hbF))
    go_wp2_with (fail)
    go_ret
    exact ⟨rfl, bF⟩

theorem door_met (os : Os) (args : Array Value) : laidMetH Tryd.prog Rows.fnExactValidRow.laid ((World.doorLaid Tryd.prog 24 os).forCall (fun _ _ => 0) ⟨#[], args, []⟩).memory :=
  laidMetH_of_parts3 (fuel := 8) (laidMet_of_run' 8 (by kernel_rfl) (by kernel_rfl)) (by kernel_rfl) (by kernel_rfl)
set_option maxRecDepth 100000 in
theorem lifted (os : Os) (started : os.Started) (H : Type) (enc : TypeId × Value → H) :
    ReturnsInHanded {} Tryd.checked os 3 .any (fun w args => (Rows.fnExactValidSpec.pre enc Tryd.prog Tryd.f3 [] false w args ∧ laidMetH Tryd.prog Rows.fnExactValidRow.laid w) ∧ sizedMet enc Tryd.prog Tryd.f3 (OpenSpec.ofChange Rows.fnExactValidSpec) false w args) (Rows.fnExactValidSpec.post enc Tryd.prog Tryd.f3 false true false false) := by
  refine returnsInHanded_of_change_and (C := Tryd.checked) (X := fun w _ => laidMetH Tryd.prog Rows.fnExactValidRow.laid w) (fun _ _ _ hh h => h.of_heap hh) own started (by kernel_rfl) Tryd.func3
    (ChangeSpec.witness_shaped (enc := enc) (C := Tryd.checked) (os := os) (X := fun w _ => laidMetH Tryd.prog Rows.fnExactValidRow.laid w) false (World.doorLaid Tryd.prog 24 os) #[.agg #[.int .i64 0, .int .i64 0], .string ByteArray.empty, .agg #[.int .i64 0, .int .i64 0, .int .i64 0]] 8 rfl (World.shaped_of_RefB (by kernel_rfl) (by kernel_rfl)) (by kernel_rfl) (by kernel_rfl) (by kernel_rfl) (door_met os _)) ?_
  intro W base args ds gs before hval0 hW _ _ hL _
  have hval : ∀ (j : Nat) t v, Tryd.f3.params[j]? = some t → args[j]? = some v → Value.okWide Tryd.prog W .any base t v := hval0
  have hW' := hW
  obtain ⟨p, q, hA0, hV, rfl, hfz, hnd⟩ := hW
  have hA : DataW.TrodAll enc Tryd.prog W 0 (fun _ => true) true Tryd.f3.params.toList args.toList ds p := hA0
  rw [Tryd.params3] at hA hval
  obtain ⟨v0, vs0, d0, ds0, p0, q0, hargs, rfl, rfl, h0, r0⟩ := trodAll_cons hA
  obtain ⟨v1, vs1, d1, ds1, p1, q1, rfl, rfl, rfl, h1, r1⟩ := trodAll_cons r0
  obtain ⟨v2, vs2, d2, ds2, p2, q2, rfl, rfl, rfl, h2, r2⟩ := trodAll_cons r1
  obtain ⟨rfl, rfl, rfl⟩ := trodAll_nil r2
  obtain rfl : args = #[v0, v1, v2] := by cases args; simp_all
  obtain ⟨rfl, rfl⟩ := trodVars_none hV
  have k0 := h0
  have lt0 : ∀ x ∈ p0, x.block < W.heap.size := by obtain ⟨m, hm⟩ := k0; exact DataW.trod_lt m _ _ _ hm
  have k1 := h1
  have lt1 : ∀ x ∈ p1, x.block < W.heap.size := by obtain ⟨m, hm⟩ := k1; exact DataW.trod_lt m _ _ _ hm
  have k2 := h2
  have lt2 : ∀ x ∈ p2, x.block < W.heap.size := by obtain ⟨m, hm⟩ := k2; exact DataW.trod_lt m _ _ _ hm
  obtain ⟨cx0, cy0, dx0, dy0, m0, rfl, rfl, rfl, hx0, hy0⟩ := open_agg2 Tryd.underlying23 (by kernel_rfl) cells23 (hval 0 23 v0 rfl rfl) h0
  obtain ⟨x0, ex0, rfl, wx0⟩ := DataW.trod_int Tryd.underlying2 hx0
  obtain ⟨y0, ey0, rfl, wy0⟩ := DataW.trod_int Tryd.underlying2 hy0
  simp at ex0 ey0
  subst ex0 ey0
  obtain ⟨s1, rfl, rfl, rfl, ws1⟩ := Go.ChangeMaps.open_string Tryd.underlying9 (hval 1 9 v1 rfl rfl) h1
  obtain ⟨x2, y2, t2, rfl⟩ := open_sig (hval 2 25 v2 rfl rfl) h2
  clear hA0 hval0
  refine (walk x0 y0 s1 ws1 x2 y2 t2 W (Sg.tab_of_laid hL)).mono fun e W' ⟨he, bel⟩ => ?_
  subst he
  exact ⟨_, rfl, _, _, _, [], _, [], hW', trodAll_mk1 (shut_bool Tryd.underlying4 _), (trodAll_cons_mk (Below.trod laidOut (by kernel_rfl) (of_decide_eq_true (by kernel_rfl)) k0 bel lt0) (trodAll_cons_mk (Below.trod laidOut (by kernel_rfl) (of_decide_eq_true (by kernel_rfl)) k1 bel lt1) (trodAll_cons_mk (Below.trod laidOut (by kernel_rfl) (of_decide_eq_true (by kernel_rfl)) k2 bel lt2) trodAll_mk0))), rfl, bel.frame _, fun h => by cases h⟩

theorem over : Rows.fnExactValidRow.holds Tryd.pinned (OpenSpec.ofChange Rows.fnExactValidSpec) :=
  OpenClaim.holds_of_wide 3 Tryd.f3 rfl rfl rfl rfl rfl rfl rfl ⟨rfl, rfl, rfl, rfl, rfl⟩ rfl rfl rfl rfl rfl (by kernel_rfl) Tryd.func3 (by kernel_rfl)
    (of_decide_eq_true (by kernel_rfl)) (by unfold Func.isWrapper; first | (rw [if_pos (by decide +kernel)]; kernel_rfl) | (rw [if_neg (by decide +kernel)]; exact ⟨rfl, rfl⟩))
    (fun os started H enc _ => lifted os started H enc)
theorem card : Rows.FnExactValidCardSaid :=
  Claim7.holds_tied_plain_at .later [] [.data, .data, .data] true (true, "6affdfb7229fe6724d2d3c339fc8da27dec5a242b05f7223bc947e0533bdb5f1") false
    over (fun _ h => by cases h) (by kernel_rfl) (fun _ h => by cases h) fnExactValid_row_tie rfl ⟨rfl, rfl⟩ (by kernel_rfl) rfl
    (fun f fn hf hfn => by
      obtain rfl : f = 3 := Option.some.inj ((show Tryd.prog.funcNamed "loop.example/g00307/laws.FnExactValid" = some 3 by kernel_rfl).symm.trans hf) |>.symm
      obtain rfl : fn = Tryd.f3 := (Option.some.inj (Tryd.func3.symm.trans hfn)).symm
      exact ⟨by kernel_rfl, fun j t ht => by
        rw [Tryd.params3] at ht
        have hm : t ∈ [23, 9, 25] := by simpa using Array.mem_of_getElem? ht
        have hall : ([23, 9, 25].all fun u => !Tryd.prog.wantsStandIn u) = true := by kernel_rfl
        exact (show Tryd.prog.wantsStandIn t = false by simpa using List.all_eq_true.1 hall t hm)⟩)
    (by kernel_rfl)
end Go.Proofs.YtbjmijajngedoabDoor.fnExactValid
namespace Go.Proofs.YtbjmijajngedoabDoor
theorem fnExactValid_holds : Rows.FnExactValidCardSaid := fnExactValid.card
#print axioms fnExactValid_holds
end Go.Proofs.YtbjmijajngedoabDoor
