/-
  FnTimes answers true at every slice of bytes and leaves it as it was: times go over sums of numbers, 10196 times each Point is Nought, and the base comes back first after its order. No condition.
-/
import Derived.Test.YthejkafdoomhoaaRows
import Derived.WalkKit
import Derived.ProofKit
import Derived.OpenShut
import Derived.ShutString
import Derived.ChangeOld
import Derived.Below
import Derived.Test.YthejkafdoomhoaaLawD
import Derived.Test.YthejkafdoomhoaaCurveD
import Derived.Test.YthejkafdoomhoaaCurveX
import Derived.Test.YthejkafdoomhoaaCurveAll
import Derived.Deep.Cut
import Derived.Deep.RegionHeld3
import Derived.Laws.StructEq
namespace Go.Proofs.Ythejkafdoomhoaa.fnTimes
open Go.ChangeShapes Go.WideShapes Go.ChangeAt Go.RowKit
open Go.ChangeMaps (open_string shut_string)
set_option linter.unusedVariables false

theorem own : ownKnob Try.prog.godebug = none := by kernel_rfl
theorem laidOut : laidOutB Try.prog = true := by kernel_rfl

/-- A row of integers that came in: nil, or cells at an address. -/
def IsRow (k : IntKind) (w : World) (a : Option Addr) (len cap : Nat) (zs : List Int) : Prop :=
  (a = none ∧ len = 0 ∧ cap = 0 ∧ zs = []) ∨
  ∃ x, a = some x ∧ len ≤ cap ∧ cap ≤ maxLen ∧ zs.length = cap ∧ (∀ i, i < zs.length → w.cell? (x.add i) = some (.int k (zs.getD i 0))) ∧ ∀ n ∈ zs, (Lit.int k n).wf = true

open Cv Cu
theorem code_of {w : World} {a : Option Addr} {len cap : Nat} {zs : List Int} (h : IsRow .u8 w a len cap zs) : Dr.Code w.heap.size w a len := by
  refine ⟨fun i hi => ?_⟩
  rcases h with ⟨rfl, rfl, rfl, rfl⟩ | ⟨x, rfl, hl, hm, hz, hcell, hwz⟩
  · omega
  · have hc := hcell i (by omega)
    obtain ⟨b, off, spot⟩ := x
    have h00 := hcell 0 (by omega)
    have hspot : spot = none := by simpa [Addr.add] using World.cell?_spot h00
    subst hspot
    have hc0 : w.cell? ⟨b, off + i, none⟩ = some (.int .u8 (zs.getD i 0)) := by
      by_cases e : i = 0
      · subst e; simpa [Addr.add] using hc
      · simpa [Addr.add, e] using hc
    have hw := hwz (zs.getD i 0) (by rw [List.getD_eq_getElem?_getD, List.getElem?_eq_getElem (by omega)]; simp)
    have hb : b < w.heap.size := by
      refine Decidable.byContradiction fun hn => ?_
      have hx : w.heap[b]? = none := by simp; omega
      simp [World.cell?, hx] at hc0
    have hbd := bounds_u8 hw
    exact ⟨b, off, _, rfl, hb, hc0, hbd.1, hbd.2⟩
set_option maxRecDepth 100000 in
set_option maxHeartbeats 8000000 in

theorem walk (a0 : Option Addr) (len0 cap0 : Nat) (z0 : List Int) (w : World) (w0 : IsRow .u8 w a0 len0 cap0 z0) :
    Calls Try.prog 4 #[.slice a0 len0 cap0] w fun e w' => e = .returned (.bool true) ∧ Below w.heap.size w w' := by
  have hcode := code_of w0
  have HC_0 : Hid (Dr.Code w.heap.size w a0 len0) := hcode
  clear hcode w0
  by_cases hb : 4096 < len0
  · have hb' : (4096 : Int) < (len0 : Int) := by omega
    go_enter Try.func4, Try.ntmps4
    go_wp2
    go_ret
    exact ⟨rfl, Below.refl _ _⟩
  · have hb' : ¬ (4096 : Int) < (len0 : Int) := by omega
    go_enter Try.func4, Try.ntmps4
    go_wp2_with (first | (go_at_call 9; go_in) | fail)
    refine (DrawTimes_any _ _ _ _ HC_0.out (by omega)).mono ?_
    rintro e w1 ⟨n, x, y, n0, n1, rfl, hbl⟩
    have HC_1 : Hid (Dr.Code w1.heap.size w1 a0 len0) := Hid.mk' (Dr.Code.kept HC_0.out hbl)
    have HB_1 : Hid (Below w.heap.size w w1) := hbl
    clear hbl HC_0
    by_cases hok : okI x y = true ∧ 0 ≤ n ∧ n ≤ 1099511627776
    · obtain ⟨hk, h0, h2⟩ := hok
      obtain ⟨a, b, rfl, rfl, hN⟩ := okI_nat hk
      obtain ⟨n, rfl⟩ := Int.eq_ofNat_of_zero_le h0
      have HN := Hid.mk' hN
      have hn : n ≤ 1099511627776 := by omega
      have Ci := Hid.mk' (fun w => impl_Times_yes n a b w hN hn)
      have Cs := Hid.mk' (fun w => spec_Times_yes n a b w hN hn)
      have Call := Hid.mk' (fun w => impl_Times_yes 10196 a b w hN (by decide))
      rw [all_nought hN] at Call
      have Cord := Hid.mk' (fun w => impl_Times_yes 2549 2791 6375 w ok_base (by decide))
      rw [show ns (2791, 6375) 2549 = (0, 1) from gen_order] at Cord
      have Cp := Hid.mk' (impl_PointOk ((ns (a, b) n).1 : Int) ((ns (a, b) n).2 : Int))
      rw [okI_cast, show okN ((ns (a, b) n).1, (ns (a, b) n).2) = true from ns_ok hN n] at Cp
      clear hk hN n0 n1 h0
      go_wp2_with (fail)
      refine (Ci.out _).mono ?_
      rintro e w2 ⟨rfl, hb⟩
      have t4_2 := Hid.mk' (Tw.fresh (x := (a : Int)) (y := (b : Int)) hb)
      have HC_2 := Hid.mk' (code_step HC_1.out hb)
      have HB_2 := Hid.mk' (below_step HB_1.out hb)
      clear HC_1 HB_1 hb
      have t4c := t4_2.out.c0
      have t4d := t4_2.out.c1
      have t4l := t4_2.out.lt
      go_wp2_with (fail)
      refine (Cs.out _).mono ?_
      rintro e w3 ⟨rfl, hb⟩
      clear t4c t4d t4l
      have t4_3 := Hid.mk' (t4_2.out.step hb)
      clear t4_2
      have t5_3 := Hid.mk' (Tw.fresh (x := ((ns (a, b) n).1 : Int)) (y := ((ns (a, b) n).2 : Int)) hb)
      have HC_3 := Hid.mk' (code_step HC_2.out hb)
      have HB_3 := Hid.mk' (below_step HB_2.out hb)
      clear HC_2 HB_2 hb
      have t4c := t4_3.out.c0
      have t4d := t4_3.out.c1
      have t4l := t4_3.out.lt
      have t5c := t5_3.out.c0
      have t5d := t5_3.out.c1
      have t5l := t5_3.out.lt
      go_wp2_with (fail)
      refine (Dr.pick_any _ _ _ _ _ _ _ (code_old HC_3.out) (by omega) (by decide) (by decide) (by decide)).mono ?_
      rintro e wp ⟨k, k0, k1, rfl, rfl⟩
      obtain ⟨kn, rfl⟩ := Int.eq_ofNat_of_zero_le k0
      by_cases hs : n + kn ≤ 1099511627776
      · have hs' : (n : Int) + (kn : Int) ≤ 1099511627776 := by omega
        have Ck := Hid.mk' (fun w => impl_Times_yes kn a b w HN.out (by omega))
        have Cnk := Hid.mk' (fun w => impl_Times_yes (n + kn) a b w HN.out hs)
        have Cad := Hid.mk' (fun w => impl_Added_yes _ _ _ _ w (show okN ((ns (a, b) n).1, (ns (a, b) n).2) = true from ns_ok HN.out n) (show okN ((ns (a, b) kn).1, (ns (a, b) kn).2) = true from ns_ok HN.out kn))
        rw [show adN ((ns (a, b) n).1, (ns (a, b) n).2) ((ns (a, b) kn).1, (ns (a, b) kn).2) = ns (a, b) (n + kn) from (ns_add HN.out n kn).symm] at Cad
        have ecast : ((n + kn : Nat) : Int) = (n : Int) + (kn : Int) := by omega
        rw [ecast] at Cnk
        clear ecast
        go_wp2_with (fail)
        refine (Ck.out _).mono ?_
        rintro e w4 ⟨rfl, hb⟩
        clear t4c t4d t4l t5c t5d t5l
        have t4_4 := Hid.mk' (t4_3.out.step hb)
        clear t4_3
        have t5_4 := Hid.mk' (t5_3.out.step hb)
        clear t5_3
        have t7_4 := Hid.mk' (Tw.fresh (x := ((ns (a, b) n).1 : Int)) (y := ((ns (a, b) n).2 : Int)) hb)
        have HC_4 := Hid.mk' (code_step HC_3.out hb)
        have HB_4 := Hid.mk' (below_step HB_3.out hb)
        clear HC_3 HB_3 hb
        have t4c := t4_4.out.c0
        have t4d := t4_4.out.c1
        have t4l := t4_4.out.lt
        have t5c := t5_4.out.c0
        have t5d := t5_4.out.c1
        have t5l := t5_4.out.lt
        have t7c := t7_4.out.c0
        have t7d := t7_4.out.c1
        have t7l := t7_4.out.lt
        go_wp2_with (fail)
        refine (Cnk.out _).mono ?_
        rintro e w5 ⟨rfl, hb⟩
        clear t4c t4d t4l t5c t5d t5l t7c t7d t7l
        have t4_5 := Hid.mk' (t4_4.out.step hb)
        clear t4_4
        have t5_5 := Hid.mk' (t5_4.out.step hb)
        clear t5_4
        have t7_5 := Hid.mk' (t7_4.out.step hb)
        clear t7_4
        have t10_5 := Hid.mk' (Tw.fresh (x := ((ns (a, b) kn).1 : Int)) (y := ((ns (a, b) kn).2 : Int)) hb)
        have HC_5 := Hid.mk' (code_step HC_4.out hb)
        have HB_5 := Hid.mk' (below_step HB_4.out hb)
        clear HC_4 HB_4 hb
        have t4c := t4_5.out.c0
        have t4d := t4_5.out.c1
        have t4l := t4_5.out.lt
        have t5c := t5_5.out.c0
        have t5d := t5_5.out.c1
        have t5l := t5_5.out.lt
        have t7c := t7_5.out.c0
        have t7d := t7_5.out.c1
        have t7l := t7_5.out.lt
        have t10c := t10_5.out.c0
        have t10d := t10_5.out.c1
        have t10l := t10_5.out.lt
        go_wp2_with (fail)
        refine (Cad.out _).mono ?_
        rintro e w6 ⟨rfl, hb⟩
        clear t4c t4d t4l t5c t5d t5l t7c t7d t7l t10c t10d t10l
        have t4_6 := Hid.mk' (t4_5.out.step hb)
        clear t4_5
        have t5_6 := Hid.mk' (t5_5.out.step hb)
        clear t5_5
        have t7_6 := Hid.mk' (t7_5.out.step hb)
        clear t7_5
        have t10_6 := Hid.mk' (t10_5.out.step hb)
        clear t10_5
        have t12_6 := Hid.mk' (Tw.fresh (x := ((ns (a, b) (n + kn)).1 : Int)) (y := ((ns (a, b) (n + kn)).2 : Int)) hb)
        have HC_6 := Hid.mk' (code_step HC_5.out hb)
        have HB_6 := Hid.mk' (below_step HB_5.out hb)
        clear HC_5 HB_5 hb
        have t4c := t4_6.out.c0
        have t4d := t4_6.out.c1
        have t4l := t4_6.out.lt
        have t5c := t5_6.out.c0
        have t5d := t5_6.out.c1
        have t5l := t5_6.out.lt
        have t7c := t7_6.out.c0
        have t7d := t7_6.out.c1
        have t7l := t7_6.out.lt
        have t10c := t10_6.out.c0
        have t10d := t10_6.out.c1
        have t10l := t10_6.out.lt
        have t12c := t12_6.out.c0
        have t12d := t12_6.out.c1
        have t12l := t12_6.out.lt
        go_wp2_with (fail)
        refine (Call.out _).mono ?_
        rintro e w7 ⟨rfl, hb⟩
        clear t4c t4d t4l t5c t5d t5l t7c t7d t7l t10c t10d t10l t12c t12d t12l
        have t4_7 := Hid.mk' (t4_6.out.step hb)
        clear t4_6
        have t5_7 := Hid.mk' (t5_6.out.step hb)
        clear t5_6
        have t7_7 := Hid.mk' (t7_6.out.step hb)
        clear t7_6
        have t10_7 := Hid.mk' (t10_6.out.step hb)
        clear t10_6
        have t12_7 := Hid.mk' (t12_6.out.step hb)
        clear t12_6
        have t14_7 := Hid.mk' (Tw.fresh (x := ((ns (a, b) (n + kn)).1 : Int)) (y := ((ns (a, b) (n + kn)).2 : Int)) hb)
        have HC_7 := Hid.mk' (code_step HC_6.out hb)
        have HB_7 := Hid.mk' (below_step HB_6.out hb)
        clear HC_6 HB_6 hb
        have t4c := t4_7.out.c0
        have t4d := t4_7.out.c1
        have t4l := t4_7.out.lt
        have t5c := t5_7.out.c0
        have t5d := t5_7.out.c1
        have t5l := t5_7.out.lt
        have t7c := t7_7.out.c0
        have t7d := t7_7.out.c1
        have t7l := t7_7.out.lt
        have t10c := t10_7.out.c0
        have t10d := t10_7.out.c1
        have t10l := t10_7.out.lt
        have t12c := t12_7.out.c0
        have t12d := t12_7.out.c1
        have t12l := t12_7.out.lt
        have t14c := t14_7.out.c0
        have t14d := t14_7.out.c1
        have t14l := t14_7.out.lt
        go_wp2_with (fail)
        refine (impl_Base _).mono ?_
        rintro e w8 ⟨rfl, hb⟩
        clear t4c t4d t4l t5c t5d t5l t7c t7d t7l t10c t10d t10l t12c t12d t12l t14c t14d t14l
        have t4_8 := Hid.mk' (t4_7.out.step hb)
        clear t4_7
        have t5_8 := Hid.mk' (t5_7.out.step hb)
        clear t5_7
        have t7_8 := Hid.mk' (t7_7.out.step hb)
        clear t7_7
        have t10_8 := Hid.mk' (t10_7.out.step hb)
        clear t10_7
        have t12_8 := Hid.mk' (t12_7.out.step hb)
        clear t12_7
        have t14_8 := Hid.mk' (t14_7.out.step hb)
        clear t14_7
        have t16_8 := Hid.mk' (Tw.fresh (x := 0) (y := 1) hb)
        have HC_8 := Hid.mk' (code_step HC_7.out hb)
        have HB_8 := Hid.mk' (below_step HB_7.out hb)
        clear HC_7 HB_7 hb
        have t4c := t4_8.out.c0
        have t4d := t4_8.out.c1
        have t4l := t4_8.out.lt
        have t5c := t5_8.out.c0
        have t5d := t5_8.out.c1
        have t5l := t5_8.out.lt
        have t7c := t7_8.out.c0
        have t7d := t7_8.out.c1
        have t7l := t7_8.out.lt
        have t10c := t10_8.out.c0
        have t10d := t10_8.out.c1
        have t10l := t10_8.out.lt
        have t12c := t12_8.out.c0
        have t12d := t12_8.out.c1
        have t12l := t12_8.out.lt
        have t14c := t14_8.out.c0
        have t14d := t14_8.out.c1
        have t14l := t14_8.out.lt
        have t16c := t16_8.out.c0
        have t16d := t16_8.out.c1
        have t16l := t16_8.out.lt
        go_wp2_with (fail)
        refine (Cord.out _).mono ?_
        rintro e w9 ⟨rfl, hb⟩
        clear t4c t4d t4l t5c t5d t5l t7c t7d t7l t10c t10d t10l t12c t12d t12l t14c t14d t14l t16c t16d t16l
        have t4_9 := Hid.mk' (t4_8.out.next hb)
        clear t4_8
        have t5_9 := Hid.mk' (t5_8.out.next hb)
        clear t5_8
        have t7_9 := Hid.mk' (t7_8.out.next hb)
        clear t7_8
        have t10_9 := Hid.mk' (t10_8.out.next hb)
        clear t10_8
        have t12_9 := Hid.mk' (t12_8.out.next hb)
        clear t12_8
        have t14_9 := Hid.mk' (t14_8.out.next hb)
        clear t14_8
        have t16_9 := Hid.mk' (t16_8.out.next hb)
        clear t16_8
        have HC_9 := Hid.mk' (code_next HC_8.out hb)
        have HB_9 := Hid.mk' (below_next HB_8.out hb)
        clear HC_8 HB_8 hb
        have t4c := t4_9.out.c0
        have t4d := t4_9.out.c1
        have t4l := t4_9.out.lt
        have t5c := t5_9.out.c0
        have t5d := t5_9.out.c1
        have t5l := t5_9.out.lt
        have t7c := t7_9.out.c0
        have t7d := t7_9.out.c1
        have t7l := t7_9.out.lt
        have t10c := t10_9.out.c0
        have t10d := t10_9.out.c1
        have t10l := t10_9.out.lt
        have t12c := t12_9.out.c0
        have t12d := t12_9.out.c1
        have t12l := t12_9.out.lt
        have t14c := t14_9.out.c0
        have t14d := t14_9.out.c1
        have t14l := t14_9.out.lt
        have t16c := t16_9.out.c0
        have t16d := t16_9.out.c1
        have t16l := t16_9.out.lt
        go_wp2_with (fail)
        refine (Dr.pick_any _ _ _ _ _ _ _ (code_old HC_9.out) (by omega) (by decide) (by decide) (by decide)).mono ?_
        rintro e wp ⟨m, m0, m1, rfl, rfl⟩
        obtain ⟨mn, rfl⟩ := Int.eq_ofNat_of_zero_le m0
        go_wp2_with (fail)
        refine (impl_Base _).mono ?_
        rintro e w10 ⟨rfl, hb⟩
        clear t4c t4d t4l t5c t5d t5l t7c t7d t7l t10c t10d t10l t12c t12d t12l t14c t14d t14l t16c t16d t16l
        have t4_10 := Hid.mk' (t4_9.out.step hb)
        clear t4_9
        have t5_10 := Hid.mk' (t5_9.out.step hb)
        clear t5_9
        have t7_10 := Hid.mk' (t7_9.out.step hb)
        clear t7_9
        have t10_10 := Hid.mk' (t10_9.out.step hb)
        clear t10_9
        have t12_10 := Hid.mk' (t12_9.out.step hb)
        clear t12_9
        have t14_10 := Hid.mk' (t14_9.out.step hb)
        clear t14_9
        have t16_10 := Hid.mk' (t16_9.out.step hb)
        clear t16_9
        have t18_10 := Hid.mk' (Tw.fresh (x := 0) (y := 1) hb)
        have HC_10 := Hid.mk' (code_step HC_9.out hb)
        have HB_10 := Hid.mk' (below_step HB_9.out hb)
        clear HC_9 HB_9 hb
        have t4c := t4_10.out.c0
        have t4d := t4_10.out.c1
        have t4l := t4_10.out.lt
        have t5c := t5_10.out.c0
        have t5d := t5_10.out.c1
        have t5l := t5_10.out.lt
        have t7c := t7_10.out.c0
        have t7d := t7_10.out.c1
        have t7l := t7_10.out.lt
        have t10c := t10_10.out.c0
        have t10d := t10_10.out.c1
        have t10l := t10_10.out.lt
        have t12c := t12_10.out.c0
        have t12d := t12_10.out.c1
        have t12l := t12_10.out.lt
        have t14c := t14_10.out.c0
        have t14d := t14_10.out.c1
        have t14l := t14_10.out.lt
        have t16c := t16_10.out.c0
        have t16d := t16_10.out.c1
        have t16l := t16_10.out.lt
        have t18c := t18_10.out.c0
        have t18d := t18_10.out.c1
        have t18l := t18_10.out.lt
        have hgm := gen_first (1 + mn) (by omega) (by omega)
        have Cg := Hid.mk' (impl_Times_yes (1 + mn) 2791 6375)
        have ecast : ((1 + mn : Nat) : Int) = 1 + (mn : Int) := by omega
        rw [ecast] at Cg
        have hne : (((ns (2791, 6375) (1 + mn)).1 : Int) == 0 && ((ns (2791, 6375) (1 + mn)).2 : Int) == 1) = false := by
          rw [Bool.eq_false_iff]
          intro hh
          simp only [Bool.and_eq_true, beq_iff_eq] at hh
          exact hgm (Prod.ext (by have := hh.1; simp only [gen]; omega) (by have := hh.2; simp only [gen]; omega))
        clear hgm
        generalize hgu : ((ns (2791, 6375) (1 + mn)).1 : Int) = gu at Cg hne
        generalize hgv : ((ns (2791, 6375) (1 + mn)).2 : Int) = gv at Cg hne
        clear hgu hgv ecast
        go_wp2_with (fail)
        refine (Cg.out _ ok_base (by omega)).mono ?_
        rintro e w11 ⟨rfl, hb⟩
        clear t4c t4d t4l t5c t5d t5l t7c t7d t7l t10c t10d t10l t12c t12d t12l t14c t14d t14l t16c t16d t16l t18c t18d t18l
        have t4_11 := Hid.mk' (t4_10.out.next hb)
        clear t4_10
        have t5_11 := Hid.mk' (t5_10.out.next hb)
        clear t5_10
        have t7_11 := Hid.mk' (t7_10.out.next hb)
        clear t7_10
        have t10_11 := Hid.mk' (t10_10.out.next hb)
        clear t10_10
        have t12_11 := Hid.mk' (t12_10.out.next hb)
        clear t12_10
        have t14_11 := Hid.mk' (t14_10.out.next hb)
        clear t14_10
        have t16_11 := Hid.mk' (t16_10.out.next hb)
        clear t16_10
        have t18_11 := Hid.mk' (t18_10.out.next hb)
        clear t18_10
        have HC_11 := Hid.mk' (code_next HC_10.out hb)
        have HB_11 := Hid.mk' (below_next HB_10.out hb)
        clear HC_10 HB_10 hb
        have t4c := t4_11.out.c0
        have t4d := t4_11.out.c1
        have t4l := t4_11.out.lt
        have t5c := t5_11.out.c0
        have t5d := t5_11.out.c1
        have t5l := t5_11.out.lt
        have t7c := t7_11.out.c0
        have t7d := t7_11.out.c1
        have t7l := t7_11.out.lt
        have t10c := t10_11.out.c0
        have t10d := t10_11.out.c1
        have t10l := t10_11.out.lt
        have t12c := t12_11.out.c0
        have t12d := t12_11.out.c1
        have t12l := t12_11.out.lt
        have t14c := t14_11.out.c0
        have t14d := t14_11.out.c1
        have t14l := t14_11.out.lt
        have t16c := t16_11.out.c0
        have t16d := t16_11.out.c1
        have t16l := t16_11.out.lt
        have t18c := t18_11.out.c0
        have t18d := t18_11.out.c1
        have t18l := t18_11.out.lt
        go_upto_region 20 with fail
        have hg : ¬ gu = 0 ∨ gu = 0 ∧ ¬ gv = 1 := by
          by_cases h0 : gu = 0
          · refine .inr ⟨h0, fun h1 => ?_⟩
            subst h0 h1
            simp at hne
          · exact .inl h0
        clear hne
        rcases hg with hg | ⟨rfl, hg⟩
        · have hg2 : (gu == 0) = false := by simpa using hg
          have F5 : Tw (w11.alloc (.cells #[.int .i64 gu, .int .i64 gv] 25)) w2.heap.size ((ns (a, b) n).1 : Int) ((ns (a, b) n).2 : Int) := Tw.old t5_11.out
          have F16 : Tw (w11.alloc (.cells #[.int .i64 gu, .int .i64 gv] 25)) w7.heap.size 0 1 := Tw.old t16_11.out
          have F18 : Tw (w11.alloc (.cells #[.int .i64 gu, .int .i64 gv] 25)) w9.heap.size 0 1 := Tw.old t18_11.out
          have F20 : Tw (w11.alloc (.cells #[.int .i64 gu, .int .i64 gv] 25)) w11.heap.size gu gv := Tw.newAt rfl
          have HBz : Below w.heap.size w (w11.alloc (.cells #[.int .i64 gu, .int .i64 gv] 25)) := below_old HB_11.out
          clear t4c t4d t4l t5c t5d t5l t7c t7d t7l t10c t10d t10l t12c t12d t12l t14c t14d t14l t16c t16d t16l t18c t18d t18l HB_11 HC_11
          generalize (w11.alloc (.cells #[.int .i64 gu, .int .i64 gv] 25)) = wz at F5 F16 F18 F20 HBz ⊢
          generalize w2.heap.size = b5 at F5 ⊢
          generalize w7.heap.size = b16 at F16 ⊢
          generalize w9.heap.size = b18 at F18 ⊢
          generalize w11.heap.size = b20 at F20 ⊢
          have l5 := F5.lt
          have l16 := F16.lt
          have l18 := F18.lt
          have l20 := F20.lt
          have f0 := F5.c0
          have f1 := F5.c1
          have f2 := F16.c0
          have f3 := F16.c1
          have f4 := F18.c0
          have f5 := F18.c1
          have f6 := F20.c0
          have f7 := F20.c1
          clear F5 F16 F18 F20
          go_region_held3 (fun w' => w'.cell? ⟨b5, 0, none⟩ = some (.int .i64 ((ns (a, b) n).1 : Int)) ∧ w'.cell? ⟨b5, 1, none⟩ = some (.int .i64 ((ns (a, b) n).2 : Int)) ∧ w'.cell? ⟨b16, 0, none⟩ = some (.int .i64 0) ∧ w'.cell? ⟨b16, 1, none⟩ = some (.int .i64 1) ∧ w'.cell? ⟨b18, 0, none⟩ = some (.int .i64 0) ∧ w'.cell? ⟨b18, 1, none⟩ = some (.int .i64 1) ∧ w'.cell? ⟨b20, 0, none⟩ = some (.int .i64 gu) ∧ w'.cell? ⟨b20, 1, none⟩ = some (.int .i64 gv)) (first | assumption | exact ⟨f0, f1, f2, f3, f4, f5, f6, f7⟩ | (with_reducible refine held8 hbN (by assumption) ?_ ?_ ?_ ?_ <;> omega) | (with_reducible refine held8 (by assumption) (by assumption) ?_ ?_ ?_ ?_ <;> omega) | (with_reducible refine held8_drew (by assumption) (by assumption) ?_ ?_ ?_ ?_ <;> omega) | (with_reducible refine held8_drew (by assumption) ⟨f0, f1, f2, f3, f4, f5, f6, f7⟩ ?_ ?_ ?_ ?_ <;> omega) | (with_reducible refine held8 (by assumption) ⟨f0, f1, f2, f3, f4, f5, f6, f7⟩ ?_ ?_ ?_ ?_ <;> omega) | go_keep)
            (first
              | (go_at_call 15; refine (Cp.out _).mono ?_; rintro e wA ⟨rfl, hbA⟩; have zA : wz.heap.size ≤ wA.heap.size := hbA.size; have bl : Below w.heap.size w wA := below_next (by first | assumption | exact Below.drew (by assumption)) hbA)
              | (go_at_call 17; refine (impl_Nought _).mono ?_; rintro e wN ⟨rfl, hbN⟩; have zN := hbN.size; have bl := below_next (w0 := w) (by first | assumption | exact Below.drew (by assumption)) hbN))
          all_goals
            go_wp2_with fail
            go_ret
            exact ⟨rfl, by first | assumption | exact Below.drew (by assumption)⟩
        · have hg2 : (gv == 1) = false := by simpa using hg
          have F5 : Tw (w11.alloc (.cells #[.int .i64 0, .int .i64 gv] 25)) w2.heap.size ((ns (a, b) n).1 : Int) ((ns (a, b) n).2 : Int) := Tw.old t5_11.out
          have F16 : Tw (w11.alloc (.cells #[.int .i64 0, .int .i64 gv] 25)) w7.heap.size 0 1 := Tw.old t16_11.out
          have F18 : Tw (w11.alloc (.cells #[.int .i64 0, .int .i64 gv] 25)) w9.heap.size 0 1 := Tw.old t18_11.out
          have F20 : Tw (w11.alloc (.cells #[.int .i64 0, .int .i64 gv] 25)) w11.heap.size 0 gv := Tw.newAt rfl
          have HBz : Below w.heap.size w (w11.alloc (.cells #[.int .i64 0, .int .i64 gv] 25)) := below_old HB_11.out
          clear t4c t4d t4l t5c t5d t5l t7c t7d t7l t10c t10d t10l t12c t12d t12l t14c t14d t14l t16c t16d t16l t18c t18d t18l HB_11 HC_11
          generalize (w11.alloc (.cells #[.int .i64 0, .int .i64 gv] 25)) = wz at F5 F16 F18 F20 HBz ⊢
          generalize w2.heap.size = b5 at F5 ⊢
          generalize w7.heap.size = b16 at F16 ⊢
          generalize w9.heap.size = b18 at F18 ⊢
          generalize w11.heap.size = b20 at F20 ⊢
          have l5 := F5.lt
          have l16 := F16.lt
          have l18 := F18.lt
          have l20 := F20.lt
          have f0 := F5.c0
          have f1 := F5.c1
          have f2 := F16.c0
          have f3 := F16.c1
          have f4 := F18.c0
          have f5 := F18.c1
          have f6 := F20.c0
          have f7 := F20.c1
          clear F5 F16 F18 F20
          go_region_held3 (fun w' => w'.cell? ⟨b5, 0, none⟩ = some (.int .i64 ((ns (a, b) n).1 : Int)) ∧ w'.cell? ⟨b5, 1, none⟩ = some (.int .i64 ((ns (a, b) n).2 : Int)) ∧ w'.cell? ⟨b16, 0, none⟩ = some (.int .i64 0) ∧ w'.cell? ⟨b16, 1, none⟩ = some (.int .i64 1) ∧ w'.cell? ⟨b18, 0, none⟩ = some (.int .i64 0) ∧ w'.cell? ⟨b18, 1, none⟩ = some (.int .i64 1) ∧ w'.cell? ⟨b20, 0, none⟩ = some (.int .i64 0) ∧ w'.cell? ⟨b20, 1, none⟩ = some (.int .i64 gv)) (first | assumption | exact ⟨f0, f1, f2, f3, f4, f5, f6, f7⟩ | (with_reducible refine held8 hbN (by assumption) ?_ ?_ ?_ ?_ <;> omega) | (with_reducible refine held8 (by assumption) (by assumption) ?_ ?_ ?_ ?_ <;> omega) | (with_reducible refine held8_drew (by assumption) (by assumption) ?_ ?_ ?_ ?_ <;> omega) | (with_reducible refine held8_drew (by assumption) ⟨f0, f1, f2, f3, f4, f5, f6, f7⟩ ?_ ?_ ?_ ?_ <;> omega) | (with_reducible refine held8 (by assumption) ⟨f0, f1, f2, f3, f4, f5, f6, f7⟩ ?_ ?_ ?_ ?_ <;> omega) | go_keep)
            (first
              | (go_at_call 15; refine (Cp.out _).mono ?_; rintro e wA ⟨rfl, hbA⟩; have zA : wz.heap.size ≤ wA.heap.size := hbA.size; have bl : Below w.heap.size w wA := below_next (by first | assumption | exact Below.drew (by assumption)) hbA)
              | (go_at_call 17; refine (impl_Nought _).mono ?_; rintro e wN ⟨rfl, hbN⟩; have zN := hbN.size; have bl := below_next (w0 := w) (by first | assumption | exact Below.drew (by assumption)) hbN))
          all_goals
            go_wp2_with fail
            go_ret
            exact ⟨rfl, by first | assumption | exact Below.drew (by assumption)⟩
      · have hs' : ¬ (n : Int) + (kn : Int) ≤ 1099511627776 := by omega
        go_wp2_with (fail)
        refine (Call.out _).mono ?_
        rintro e w4 ⟨rfl, hb⟩
        clear t4c t4d t4l t5c t5d t5l
        have t4_4 := Hid.mk' (t4_3.out.step hb)
        clear t4_3
        have t5_4 := Hid.mk' (t5_3.out.step hb)
        clear t5_3
        have t7_4 := Hid.mk' (Tw.fresh (x := ((ns (a, b) n).1 : Int)) (y := ((ns (a, b) n).2 : Int)) hb)
        have HC_4 := Hid.mk' (code_step HC_3.out hb)
        have HB_4 := Hid.mk' (below_step HB_3.out hb)
        clear HC_3 HB_3 hb
        have t4c := t4_4.out.c0
        have t4d := t4_4.out.c1
        have t4l := t4_4.out.lt
        have t5c := t5_4.out.c0
        have t5d := t5_4.out.c1
        have t5l := t5_4.out.lt
        have t7c := t7_4.out.c0
        have t7d := t7_4.out.c1
        have t7l := t7_4.out.lt
        go_wp2_with (fail)
        refine (impl_Base _).mono ?_
        rintro e w5 ⟨rfl, hb⟩
        clear t4c t4d t4l t5c t5d t5l t7c t7d t7l
        have t4_5 := Hid.mk' (t4_4.out.step hb)
        clear t4_4
        have t5_5 := Hid.mk' (t5_4.out.step hb)
        clear t5_4
        have t7_5 := Hid.mk' (t7_4.out.step hb)
        clear t7_4
        have t16_5 := Hid.mk' (Tw.fresh (x := 0) (y := 1) hb)
        have HC_5 := Hid.mk' (code_step HC_4.out hb)
        have HB_5 := Hid.mk' (below_step HB_4.out hb)
        clear HC_4 HB_4 hb
        have t4c := t4_5.out.c0
        have t4d := t4_5.out.c1
        have t4l := t4_5.out.lt
        have t5c := t5_5.out.c0
        have t5d := t5_5.out.c1
        have t5l := t5_5.out.lt
        have t7c := t7_5.out.c0
        have t7d := t7_5.out.c1
        have t7l := t7_5.out.lt
        have t16c := t16_5.out.c0
        have t16d := t16_5.out.c1
        have t16l := t16_5.out.lt
        go_wp2_with (fail)
        refine (Cord.out _).mono ?_
        rintro e w6 ⟨rfl, hb⟩
        clear t4c t4d t4l t5c t5d t5l t7c t7d t7l t16c t16d t16l
        have t4_6 := Hid.mk' (t4_5.out.next hb)
        clear t4_5
        have t5_6 := Hid.mk' (t5_5.out.next hb)
        clear t5_5
        have t7_6 := Hid.mk' (t7_5.out.next hb)
        clear t7_5
        have t16_6 := Hid.mk' (t16_5.out.next hb)
        clear t16_5
        have HC_6 := Hid.mk' (code_next HC_5.out hb)
        have HB_6 := Hid.mk' (below_next HB_5.out hb)
        clear HC_5 HB_5 hb
        have t4c := t4_6.out.c0
        have t4d := t4_6.out.c1
        have t4l := t4_6.out.lt
        have t5c := t5_6.out.c0
        have t5d := t5_6.out.c1
        have t5l := t5_6.out.lt
        have t7c := t7_6.out.c0
        have t7d := t7_6.out.c1
        have t7l := t7_6.out.lt
        have t16c := t16_6.out.c0
        have t16d := t16_6.out.c1
        have t16l := t16_6.out.lt
        go_wp2_with (fail)
        refine (Dr.pick_any _ _ _ _ _ _ _ (code_old HC_6.out) (by omega) (by decide) (by decide) (by decide)).mono ?_
        rintro e wp ⟨m, m0, m1, rfl, rfl⟩
        obtain ⟨mn, rfl⟩ := Int.eq_ofNat_of_zero_le m0
        go_wp2_with (fail)
        refine (impl_Base _).mono ?_
        rintro e w7 ⟨rfl, hb⟩
        clear t4c t4d t4l t5c t5d t5l t7c t7d t7l t16c t16d t16l
        have t4_7 := Hid.mk' (t4_6.out.step hb)
        clear t4_6
        have t5_7 := Hid.mk' (t5_6.out.step hb)
        clear t5_6
        have t7_7 := Hid.mk' (t7_6.out.step hb)
        clear t7_6
        have t16_7 := Hid.mk' (t16_6.out.step hb)
        clear t16_6
        have t18_7 := Hid.mk' (Tw.fresh (x := 0) (y := 1) hb)
        have HC_7 := Hid.mk' (code_step HC_6.out hb)
        have HB_7 := Hid.mk' (below_step HB_6.out hb)
        clear HC_6 HB_6 hb
        have t4c := t4_7.out.c0
        have t4d := t4_7.out.c1
        have t4l := t4_7.out.lt
        have t5c := t5_7.out.c0
        have t5d := t5_7.out.c1
        have t5l := t5_7.out.lt
        have t7c := t7_7.out.c0
        have t7d := t7_7.out.c1
        have t7l := t7_7.out.lt
        have t16c := t16_7.out.c0
        have t16d := t16_7.out.c1
        have t16l := t16_7.out.lt
        have t18c := t18_7.out.c0
        have t18d := t18_7.out.c1
        have t18l := t18_7.out.lt
        have hgm := gen_first (1 + mn) (by omega) (by omega)
        have Cg := Hid.mk' (impl_Times_yes (1 + mn) 2791 6375)
        have ecast : ((1 + mn : Nat) : Int) = 1 + (mn : Int) := by omega
        rw [ecast] at Cg
        have hne : (((ns (2791, 6375) (1 + mn)).1 : Int) == 0 && ((ns (2791, 6375) (1 + mn)).2 : Int) == 1) = false := by
          rw [Bool.eq_false_iff]
          intro hh
          simp only [Bool.and_eq_true, beq_iff_eq] at hh
          exact hgm (Prod.ext (by have := hh.1; simp only [gen]; omega) (by have := hh.2; simp only [gen]; omega))
        clear hgm
        generalize hgu : ((ns (2791, 6375) (1 + mn)).1 : Int) = gu at Cg hne
        generalize hgv : ((ns (2791, 6375) (1 + mn)).2 : Int) = gv at Cg hne
        clear hgu hgv ecast
        go_wp2_with (fail)
        refine (Cg.out _ ok_base (by omega)).mono ?_
        rintro e w8 ⟨rfl, hb⟩
        clear t4c t4d t4l t5c t5d t5l t7c t7d t7l t16c t16d t16l t18c t18d t18l
        have t4_8 := Hid.mk' (t4_7.out.next hb)
        clear t4_7
        have t5_8 := Hid.mk' (t5_7.out.next hb)
        clear t5_7
        have t7_8 := Hid.mk' (t7_7.out.next hb)
        clear t7_7
        have t16_8 := Hid.mk' (t16_7.out.next hb)
        clear t16_7
        have t18_8 := Hid.mk' (t18_7.out.next hb)
        clear t18_7
        have HC_8 := Hid.mk' (code_next HC_7.out hb)
        have HB_8 := Hid.mk' (below_next HB_7.out hb)
        clear HC_7 HB_7 hb
        have t4c := t4_8.out.c0
        have t4d := t4_8.out.c1
        have t4l := t4_8.out.lt
        have t5c := t5_8.out.c0
        have t5d := t5_8.out.c1
        have t5l := t5_8.out.lt
        have t7c := t7_8.out.c0
        have t7d := t7_8.out.c1
        have t7l := t7_8.out.lt
        have t16c := t16_8.out.c0
        have t16d := t16_8.out.c1
        have t16l := t16_8.out.lt
        have t18c := t18_8.out.c0
        have t18d := t18_8.out.c1
        have t18l := t18_8.out.lt
        go_upto_region 20 with fail
        have hg : ¬ gu = 0 ∨ gu = 0 ∧ ¬ gv = 1 := by
          by_cases h0 : gu = 0
          · refine .inr ⟨h0, fun h1 => ?_⟩
            subst h0 h1
            simp at hne
          · exact .inl h0
        clear hne
        rcases hg with hg | ⟨rfl, hg⟩
        · have hg2 : (gu == 0) = false := by simpa using hg
          have F5 : Tw (w8.alloc (.cells #[.int .i64 gu, .int .i64 gv] 25)) w2.heap.size ((ns (a, b) n).1 : Int) ((ns (a, b) n).2 : Int) := Tw.old t5_8.out
          have F16 : Tw (w8.alloc (.cells #[.int .i64 gu, .int .i64 gv] 25)) w4.heap.size 0 1 := Tw.old t16_8.out
          have F18 : Tw (w8.alloc (.cells #[.int .i64 gu, .int .i64 gv] 25)) w6.heap.size 0 1 := Tw.old t18_8.out
          have F20 : Tw (w8.alloc (.cells #[.int .i64 gu, .int .i64 gv] 25)) w8.heap.size gu gv := Tw.newAt rfl
          have HBz : Below w.heap.size w (w8.alloc (.cells #[.int .i64 gu, .int .i64 gv] 25)) := below_old HB_8.out
          clear t4c t4d t4l t5c t5d t5l t7c t7d t7l t16c t16d t16l t18c t18d t18l HB_8 HC_8
          generalize (w8.alloc (.cells #[.int .i64 gu, .int .i64 gv] 25)) = wz at F5 F16 F18 F20 HBz ⊢
          generalize w2.heap.size = b5 at F5 ⊢
          generalize w4.heap.size = b16 at F16 ⊢
          generalize w6.heap.size = b18 at F18 ⊢
          generalize w8.heap.size = b20 at F20 ⊢
          have l5 := F5.lt
          have l16 := F16.lt
          have l18 := F18.lt
          have l20 := F20.lt
          have f0 := F5.c0
          have f1 := F5.c1
          have f2 := F16.c0
          have f3 := F16.c1
          have f4 := F18.c0
          have f5 := F18.c1
          have f6 := F20.c0
          have f7 := F20.c1
          clear F5 F16 F18 F20
          go_region_held3 (fun w' => w'.cell? ⟨b5, 0, none⟩ = some (.int .i64 ((ns (a, b) n).1 : Int)) ∧ w'.cell? ⟨b5, 1, none⟩ = some (.int .i64 ((ns (a, b) n).2 : Int)) ∧ w'.cell? ⟨b16, 0, none⟩ = some (.int .i64 0) ∧ w'.cell? ⟨b16, 1, none⟩ = some (.int .i64 1) ∧ w'.cell? ⟨b18, 0, none⟩ = some (.int .i64 0) ∧ w'.cell? ⟨b18, 1, none⟩ = some (.int .i64 1) ∧ w'.cell? ⟨b20, 0, none⟩ = some (.int .i64 gu) ∧ w'.cell? ⟨b20, 1, none⟩ = some (.int .i64 gv)) (first | assumption | exact ⟨f0, f1, f2, f3, f4, f5, f6, f7⟩ | (with_reducible refine held8 hbN (by assumption) ?_ ?_ ?_ ?_ <;> omega) | (with_reducible refine held8 (by assumption) (by assumption) ?_ ?_ ?_ ?_ <;> omega) | (with_reducible refine held8_drew (by assumption) (by assumption) ?_ ?_ ?_ ?_ <;> omega) | (with_reducible refine held8_drew (by assumption) ⟨f0, f1, f2, f3, f4, f5, f6, f7⟩ ?_ ?_ ?_ ?_ <;> omega) | (with_reducible refine held8 (by assumption) ⟨f0, f1, f2, f3, f4, f5, f6, f7⟩ ?_ ?_ ?_ ?_ <;> omega) | go_keep)
            (first
              | (go_at_call 15; refine (Cp.out _).mono ?_; rintro e wA ⟨rfl, hbA⟩; have zA : wz.heap.size ≤ wA.heap.size := hbA.size; have bl : Below w.heap.size w wA := below_next (by first | assumption | exact Below.drew (by assumption)) hbA)
              | (go_at_call 17; refine (impl_Nought _).mono ?_; rintro e wN ⟨rfl, hbN⟩; have zN := hbN.size; have bl := below_next (w0 := w) (by first | assumption | exact Below.drew (by assumption)) hbN))
          all_goals
            go_wp2_with fail
            go_ret
            exact ⟨rfl, by first | assumption | exact Below.drew (by assumption)⟩
        · have hg2 : (gv == 1) = false := by simpa using hg
          have F5 : Tw (w8.alloc (.cells #[.int .i64 0, .int .i64 gv] 25)) w2.heap.size ((ns (a, b) n).1 : Int) ((ns (a, b) n).2 : Int) := Tw.old t5_8.out
          have F16 : Tw (w8.alloc (.cells #[.int .i64 0, .int .i64 gv] 25)) w4.heap.size 0 1 := Tw.old t16_8.out
          have F18 : Tw (w8.alloc (.cells #[.int .i64 0, .int .i64 gv] 25)) w6.heap.size 0 1 := Tw.old t18_8.out
          have F20 : Tw (w8.alloc (.cells #[.int .i64 0, .int .i64 gv] 25)) w8.heap.size 0 gv := Tw.newAt rfl
          have HBz : Below w.heap.size w (w8.alloc (.cells #[.int .i64 0, .int .i64 gv] 25)) := below_old HB_8.out
          clear t4c t4d t4l t5c t5d t5l t7c t7d t7l t16c t16d t16l t18c t18d t18l HB_8 HC_8
          generalize (w8.alloc (.cells #[.int .i64 0, .int .i64 gv] 25)) = wz at F5 F16 F18 F20 HBz ⊢
          generalize w2.heap.size = b5 at F5 ⊢
          generalize w4.heap.size = b16 at F16 ⊢
          generalize w6.heap.size = b18 at F18 ⊢
          generalize w8.heap.size = b20 at F20 ⊢
          have l5 := F5.lt
          have l16 := F16.lt
          have l18 := F18.lt
          have l20 := F20.lt
          have f0 := F5.c0
          have f1 := F5.c1
          have f2 := F16.c0
          have f3 := F16.c1
          have f4 := F18.c0
          have f5 := F18.c1
          have f6 := F20.c0
          have f7 := F20.c1
          clear F5 F16 F18 F20
          go_region_held3 (fun w' => w'.cell? ⟨b5, 0, none⟩ = some (.int .i64 ((ns (a, b) n).1 : Int)) ∧ w'.cell? ⟨b5, 1, none⟩ = some (.int .i64 ((ns (a, b) n).2 : Int)) ∧ w'.cell? ⟨b16, 0, none⟩ = some (.int .i64 0) ∧ w'.cell? ⟨b16, 1, none⟩ = some (.int .i64 1) ∧ w'.cell? ⟨b18, 0, none⟩ = some (.int .i64 0) ∧ w'.cell? ⟨b18, 1, none⟩ = some (.int .i64 1) ∧ w'.cell? ⟨b20, 0, none⟩ = some (.int .i64 0) ∧ w'.cell? ⟨b20, 1, none⟩ = some (.int .i64 gv)) (first | assumption | exact ⟨f0, f1, f2, f3, f4, f5, f6, f7⟩ | (with_reducible refine held8 hbN (by assumption) ?_ ?_ ?_ ?_ <;> omega) | (with_reducible refine held8 (by assumption) (by assumption) ?_ ?_ ?_ ?_ <;> omega) | (with_reducible refine held8_drew (by assumption) (by assumption) ?_ ?_ ?_ ?_ <;> omega) | (with_reducible refine held8_drew (by assumption) ⟨f0, f1, f2, f3, f4, f5, f6, f7⟩ ?_ ?_ ?_ ?_ <;> omega) | (with_reducible refine held8 (by assumption) ⟨f0, f1, f2, f3, f4, f5, f6, f7⟩ ?_ ?_ ?_ ?_ <;> omega) | go_keep)
            (first
              | (go_at_call 15; refine (Cp.out _).mono ?_; rintro e wA ⟨rfl, hbA⟩; have zA : wz.heap.size ≤ wA.heap.size := hbA.size; have bl : Below w.heap.size w wA := below_next (by first | assumption | exact Below.drew (by assumption)) hbA)
              | (go_at_call 17; refine (impl_Nought _).mono ?_; rintro e wN ⟨rfl, hbN⟩; have zN := hbN.size; have bl := below_next (w0 := w) (by first | assumption | exact Below.drew (by assumption)) hbN))
          all_goals
            go_wp2_with fail
            go_ret
            exact ⟨rfl, by first | assumption | exact Below.drew (by assumption)⟩
    · have hno : okI x y = false ∨ okI x y = true ∧ n < 0 ∨ okI x y = true ∧ ¬ n < 0 ∧ 1099511627776 < n := by
        by_cases h1 : okI x y = true
        · by_cases h2 : n < 0
          · exact .inr (.inl ⟨h1, h2⟩)
          · exact .inr (.inr ⟨h1, h2, by
              have h3 : ¬ n ≤ 1099511627776 := fun h4 => hok ⟨h1, by omega, h4⟩
              omega⟩)
        · exact .inl (by simpa using h1)
      have Ci := Hid.mk' (fun w => impl_Times_no n x y w hno)
      have Cs := Hid.mk' (fun w => spec_Times_no n x y w hno)
      clear hno hok
      go_wp2_with (fail)
      refine (Ci.out _).mono ?_
      rintro e w2 ⟨rfl, hb⟩
      have t4_2 := Hid.mk' (Tw.fresh (x := x) (y := y) hb)
      have HC_2 := Hid.mk' (code_step HC_1.out hb)
      have HB_2 := Hid.mk' (below_step HB_1.out hb)
      clear HC_1 HB_1 hb
      have t4c := t4_2.out.c0
      have t4d := t4_2.out.c1
      have t4l := t4_2.out.lt
      go_wp2_with (fail)
      refine (Cs.out _).mono ?_
      rintro e w3 ⟨rfl, hb⟩
      clear t4c t4d t4l
      have t4_3 := Hid.mk' (t4_2.out.step hb)
      clear t4_2
      have t5_3 := Hid.mk' (Tw.fresh (x := 0) (y := 0) hb)
      have HC_3 := Hid.mk' (code_step HC_2.out hb)
      have HB_3 := Hid.mk' (below_step HB_2.out hb)
      clear HC_2 HB_2 hb
      have t4c := t4_3.out.c0
      have t4d := t4_3.out.c1
      have t4l := t4_3.out.lt
      have t5c := t5_3.out.c0
      have t5d := t5_3.out.c1
      have t5l := t5_3.out.lt
      go_wp2_with (fail)
      go_ret
      exact ⟨rfl, below_old HB_3.out⟩

set_option maxRecDepth 100000 in
theorem lifted (os : Os) (started : os.Started) (H : Type) (enc : TypeId × Value → H) :
    ReturnsInHanded {} Try.checked os 4 .any (Rows.fnTimesSpec.pre6 enc Try.prog Try.f4 Rows.fnTimesRow.domain false) (Rows.fnTimesSpec.post enc Try.prog Try.f4 false true false false) := by
  refine returnsInHanded_of_change (C := Try.checked) own started (by kernel_rfl) Try.func4
    (ChangeSpec.witness6 (enc := enc) (C := Try.checked) false ⟨#[], #[.slice none 0 0], []⟩ 8 (by kernel_rfl) (by kernel_rfl) (by kernel_rfl) (by kernel_rfl)) ?_
  intro W base args ds gs before hval0 hW hcnd _
  have hval : ∀ (j : Nat) t v, Try.f4.params[j]? = some t → args[j]? = some v → Value.okWide Try.prog W .any base t v := hval0
  have hW' := hW
  obtain ⟨p, q, hA0, hV, rfl, hfz, hnd⟩ := hW
  have hA : DataW.TrodAll enc Try.prog W 0 (fun _ => true) true Try.f4.params.toList args.toList ds p := hA0
  rw [Try.params4] at hA hval
  obtain ⟨v0, vs0, d0, ds0, p0, q0, hargs, rfl, rfl, h0, r0⟩ := trodAll_cons hA
  obtain ⟨rfl, rfl, rfl⟩ := trodAll_nil r0
  obtain rfl : args = #[v0] := by cases args; simp_all
  obtain ⟨rfl, rfl⟩ := trodVars_none hV
  obtain ⟨a0, len0, cap0, rfl⟩ := okWide_slice Try.underlying22 (hval 0 22 v0 rfl rfl)
  have k0 := h0
  have lt0 : ∀ x ∈ p0, x.block < W.heap.size := by obtain ⟨m, hm⟩ := k0; exact DataW.trod_lt m _ _ _ hm
  obtain ⟨z0, w0⟩ : ∃ zs, IsRow .u8 W a0 len0 cap0 zs := by
    obtain ⟨fuel, hf⟩ := h0
    rcases open_ints Try.underlying22 Try.underlying5 (by kernel_rfl) hf with ⟨hcs, _⟩ | ⟨x, l, c, zs, hcs, _, hl, hm, hz, _, hcell, hwz⟩
    · simp [Value.cells] at hcs
      obtain ⟨rfl, rfl, rfl⟩ := hcs
      exact ⟨[], .inl ⟨rfl, rfl, rfl, rfl⟩⟩
    · simp [Value.cells] at hcs
      obtain ⟨rfl, rfl, rfl⟩ := hcs
      exact ⟨zs, .inr ⟨_, rfl, hl, hm, by simpa using hz, hcell, hwz⟩⟩
  clear hA0 hval0
  refine (walk a0 len0 cap0 z0 W w0).mono fun e W' ⟨he, bel⟩ => ?_
  subst he
  exact ⟨_, rfl, _, _, _, [], _, [], hW', trodAll_mk1 (shut_bool Try.underlying4 _), (trodAll_cons_mk (Below.trod laidOut (by kernel_rfl) (of_decide_eq_true (by kernel_rfl)) k0 bel lt0) trodAll_mk0), rfl, bel.frame _, fun h => by cases h⟩

theorem over : Rows.fnTimesRow.holds Try.pinned (OpenSpec.ofChange Rows.fnTimesSpec) :=
  OpenClaim.holds_of_wide 4 Try.f4 rfl rfl rfl rfl rfl rfl rfl ⟨rfl, rfl, rfl, rfl, rfl⟩ rfl rfl rfl rfl rfl (by kernel_rfl) Try.func4 (by kernel_rfl)
    (of_decide_eq_true (by kernel_rfl)) (by unfold Func.isWrapper; first | (rw [if_pos (by decide +kernel)]; kernel_rfl) | (rw [if_neg (by decide +kernel)]; exact ⟨rfl, rfl⟩))
    (fun os started H enc _ => lifted os started H enc)
end Go.Proofs.Ythejkafdoomhoaa.fnTimes
namespace Go.Proofs.Ythejkafdoomhoaa
theorem fnTimes_holds : Rows.FnTimesSaid := fnTimes.over
#print axioms fnTimes_holds
end Go.Proofs.Ythejkafdoomhoaa
