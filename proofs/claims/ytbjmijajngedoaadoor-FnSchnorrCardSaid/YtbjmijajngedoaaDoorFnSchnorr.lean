/-
  FnSchnorr answers true at every slice of bytes and leaves it as it was: what is signed is valid by its key, and with no other number. No condition but that the library's table of powers of ten lies as its text lays it.
-/
import Derived.Test.YtbjmijajngedoaaDoorRows
import Derived.WalkKit
import Derived.ProofKit
import Derived.OpenShut
import Derived.ShutString
import Derived.ChangeOld
import Derived.Below
import Derived.Lib.SmallJoins
import Derived.Test.YtbjmijajngedoaaDoorDoorMet
import Derived.Test.YtbjmijajngedoaaDoorTie
import Derived.Test.YtbjmijajngedoaaDoorCards
import Derived.LaidMore
import Derived.Stop.Joined
import Derived.SevenTiedAt
import Derived.Test.YtbjmijajngedoaaDoorLawD
import Derived.Test.YtbjmijajngedoaaDoorSignG
import Derived.Test.YtbjmijajngedoaaDoorSignM
import Derived.Deep.Cut
import Derived.Deep.CutRange
import Derived.Deep.RegionHeld3
import Derived.Deep.RegionWith
import Derived.Laws.StructEq
namespace Go.Proofs.YtbjmijajngedoaaDoor.fnSchnorr
open Go.ChangeShapes Go.WideShapes Go.ChangeAt Go.RowKit Go.Joins
set_option linter.unusedVariables false

theorem own : ownKnob Tryd.prog.godebug = none := by kernel_rfl
theorem laidOut : laidOutB Tryd.prog = true := by kernel_rfl
/-- A row of integers that came in: nil, or cells at an address. -/
def IsRow (k : IntKind) (w : World) (a : Option Addr) (len cap : Nat) (zs : List Int) : Prop :=
  (a = none ∧ len = 0 ∧ cap = 0 ∧ zs = []) ∨
  ∃ x, a = some x ∧ len ≤ cap ∧ cap ≤ maxLen ∧ zs.length = cap ∧ (∀ i, i < zs.length → w.cell? (x.add i) = some (.int k (zs.getD i 0))) ∧ ∀ n ∈ zs, (Lit.int k n).wf = true
open Cv Cu Sg
theorem code_of {w : World} {a : Option Addr} {len cap : Nat} {zs : List Int} (h : IsRow .u8 w a len cap zs) : Dr.Code w.heap.size w a len := by
  refine ⟨fun i hi => ?_⟩
  rcases h with ⟨rfl, rfl, rfl, rfl⟩ | ⟨x, rfl, hl, hm, hz, hcell, hwz⟩
  · omega
  · have hc := hcell i (by omega)
    obtain ⟨b, off, spot⟩ := x
    have h00 := hcell 0 (by omega)
    have hspot : spot = none := by simpa [Addr.add] using World.cell?_spot h00
    subst hspot
    have hc0 : w.cell? ⟨b, off + i, none⟩ = some (.int .u8 (zs.getD i 0)) := by
      by_cases e : i = 0
      · subst e; simpa [Addr.add] using hc
      · simpa [Addr.add, e] using hc
    have hw := hwz (zs.getD i 0) (by rw [List.getD_eq_getElem?_getD, List.getElem?_eq_getElem (by omega)]; simp)
    have hb : b < w.heap.size := by
      refine Decidable.byContradiction fun hn => ?_
      have hx : w.heap[b]? = none := by simp; omega
      simp [World.cell?, hx] at hc0
    have hbd := bounds_u8 hw
    exact ⟨b, off, _, rfl, hb, hc0, hbd.1, hbd.2⟩
theorem held15 {W wA : World} {b5 b15 b9 b7 b10 b11 : Nat} {a0 a1 a2 a3 a4 a5 a6 a7 a8 a9 a10 a11 a12 a13 a14 : Value} (k : Below W.heap.size W wA) (h : W.cell? ⟨b5, 0, none⟩ = some a0 ∧ W.cell? ⟨b5, 1, none⟩ = some a1 ∧ W.cell? ⟨b5, 2, none⟩ = some a2 ∧ W.cell? ⟨b15, 0, none⟩ = some a3 ∧ W.cell? ⟨b15, 1, none⟩ = some a4 ∧ W.cell? ⟨b15, 2, none⟩ = some a5 ∧ W.cell? ⟨b9, 0, none⟩ = some a6 ∧ W.cell? ⟨b9, 1, none⟩ = some a7 ∧ W.cell? ⟨b9, 2, none⟩ = some a8 ∧ W.cell? ⟨b7, 0, none⟩ = some a9 ∧ W.cell? ⟨b7, 1, none⟩ = some a10 ∧ W.cell? ⟨b10, 0, none⟩ = some a11 ∧ W.cell? ⟨b10, 1, none⟩ = some a12 ∧ W.cell? ⟨b11, 0, none⟩ = some a13 ∧ W.cell? ⟨b11, 1, none⟩ = some a14) (l5 : b5 < W.heap.size) (l15 : b15 < W.heap.size) (l9 : b9 < W.heap.size) (l7 : b7 < W.heap.size) (l10 : b10 < W.heap.size) (l11 : b11 < W.heap.size) :
    wA.cell? ⟨b5, 0, none⟩ = some a0 ∧ wA.cell? ⟨b5, 1, none⟩ = some a1 ∧ wA.cell? ⟨b5, 2, none⟩ = some a2 ∧ wA.cell? ⟨b15, 0, none⟩ = some a3 ∧ wA.cell? ⟨b15, 1, none⟩ = some a4 ∧ wA.cell? ⟨b15, 2, none⟩ = some a5 ∧ wA.cell? ⟨b9, 0, none⟩ = some a6 ∧ wA.cell? ⟨b9, 1, none⟩ = some a7 ∧ wA.cell? ⟨b9, 2, none⟩ = some a8 ∧ wA.cell? ⟨b7, 0, none⟩ = some a9 ∧ wA.cell? ⟨b7, 1, none⟩ = some a10 ∧ wA.cell? ⟨b10, 0, none⟩ = some a11 ∧ wA.cell? ⟨b10, 1, none⟩ = some a12 ∧ wA.cell? ⟨b11, 0, none⟩ = some a13 ∧ wA.cell? ⟨b11, 1, none⟩ = some a14 := by
  rw [k.cell (p := ⟨b5, 0, none⟩) l5, k.cell (p := ⟨b5, 1, none⟩) l5, k.cell (p := ⟨b5, 2, none⟩) l5, k.cell (p := ⟨b15, 0, none⟩) l15, k.cell (p := ⟨b15, 1, none⟩) l15, k.cell (p := ⟨b15, 2, none⟩) l15, k.cell (p := ⟨b9, 0, none⟩) l9, k.cell (p := ⟨b9, 1, none⟩) l9, k.cell (p := ⟨b9, 2, none⟩) l9, k.cell (p := ⟨b7, 0, none⟩) l7, k.cell (p := ⟨b7, 1, none⟩) l7, k.cell (p := ⟨b10, 0, none⟩) l10, k.cell (p := ⟨b10, 1, none⟩) l10, k.cell (p := ⟨b11, 0, none⟩) l11, k.cell (p := ⟨b11, 1, none⟩) l11]
  exact h
theorem held15_drew {W wA : World} {b5 b15 b9 b7 b10 b11 : Nat} {a0 a1 a2 a3 a4 a5 a6 a7 a8 a9 a10 a11 a12 a13 a14 : Value} (k : Below W.drew.heap.size W.drew wA) (h : W.cell? ⟨b5, 0, none⟩ = some a0 ∧ W.cell? ⟨b5, 1, none⟩ = some a1 ∧ W.cell? ⟨b5, 2, none⟩ = some a2 ∧ W.cell? ⟨b15, 0, none⟩ = some a3 ∧ W.cell? ⟨b15, 1, none⟩ = some a4 ∧ W.cell? ⟨b15, 2, none⟩ = some a5 ∧ W.cell? ⟨b9, 0, none⟩ = some a6 ∧ W.cell? ⟨b9, 1, none⟩ = some a7 ∧ W.cell? ⟨b9, 2, none⟩ = some a8 ∧ W.cell? ⟨b7, 0, none⟩ = some a9 ∧ W.cell? ⟨b7, 1, none⟩ = some a10 ∧ W.cell? ⟨b10, 0, none⟩ = some a11 ∧ W.cell? ⟨b10, 1, none⟩ = some a12 ∧ W.cell? ⟨b11, 0, none⟩ = some a13 ∧ W.cell? ⟨b11, 1, none⟩ = some a14) (l5 : b5 < W.heap.size) (l15 : b15 < W.heap.size) (l9 : b9 < W.heap.size) (l7 : b7 < W.heap.size) (l10 : b10 < W.heap.size) (l11 : b11 < W.heap.size) :
    wA.cell? ⟨b5, 0, none⟩ = some a0 ∧ wA.cell? ⟨b5, 1, none⟩ = some a1 ∧ wA.cell? ⟨b5, 2, none⟩ = some a2 ∧ wA.cell? ⟨b15, 0, none⟩ = some a3 ∧ wA.cell? ⟨b15, 1, none⟩ = some a4 ∧ wA.cell? ⟨b15, 2, none⟩ = some a5 ∧ wA.cell? ⟨b9, 0, none⟩ = some a6 ∧ wA.cell? ⟨b9, 1, none⟩ = some a7 ∧ wA.cell? ⟨b9, 2, none⟩ = some a8 ∧ wA.cell? ⟨b7, 0, none⟩ = some a9 ∧ wA.cell? ⟨b7, 1, none⟩ = some a10 ∧ wA.cell? ⟨b10, 0, none⟩ = some a11 ∧ wA.cell? ⟨b10, 1, none⟩ = some a12 ∧ wA.cell? ⟨b11, 0, none⟩ = some a13 ∧ wA.cell? ⟨b11, 1, none⟩ = some a14 := held15 (W := W.drew) k h l5 l15 l9 l7 l10 l11
/-- Both challenges alike: the challenge, or -1. -/
theorem chall_both (x y p q : Int) (s : ByteArray) (hs : s.size ≤ 1048576) : ∃ c : Int, (∀ w, Calls Tryd.prog 16 #[.agg #[.int .i64 x, .int .i64 y], .agg #[.int .i64 p, .int .i64 q], .string s] w fun e w' => e = .returned (.int .i64 c) ∧ Below w.heap.size w w') ∧ (∀ w, Tab w → Calls Tryd.prog 15 #[.agg #[.int .i64 x, .int .i64 y], .agg #[.int .i64 p, .int .i64 q], .string s] w fun e w' => e = .returned (.int .i64 c) ∧ Below w.heap.size w w') := by
  by_cases h : okI x y = true
  · obtain ⟨a, b, rfl, rfl, h1⟩ := okI_nat h
    by_cases h2 : okI p q = true
    · obtain ⟨c, d, rfl, rfl, h3⟩ := okI_nat h2
      exact ⟨_, fun w => spec_Challenge_yes a b c d s w h1 h3 (by omega), fun w t => impl_Challenge_yes a b c d s w h1 h3 (by omega) t⟩
    · have h' : okI p q = false := by simpa using h2
      exact ⟨-1, fun w => spec_Challenge_no a b p q s w (.inr ⟨h, h'⟩), fun w _ => impl_Challenge_no a b p q s w (.inr ⟨h, h'⟩)⟩
  · have h' : okI x y = false := by simpa using h
    exact ⟨-1, fun w => spec_Challenge_no x y p q s w (.inl h'), fun w _ => impl_Challenge_no x y p q s w (.inl h')⟩
set_option maxRecDepth 100000 in
set_option maxHeartbeats 16000000 in

theorem walk (a0 : Option Addr) (len0 cap0 : Nat) (z0 : List Int) (w : World) (w0 : IsRow .u8 w a0 len0 cap0 z0) (htab : Sg.Tab w) :
    Calls Tryd.prog 3 #[.slice a0 len0 cap0] w fun e w' => e = .returned (.bool true) ∧ Below w.heap.size w w' := by
  have hcode := code_of w0
  have HC_0 : Hid (Dr.Code w.heap.size w a0 len0) := hcode
  have HT := hidIt htab
  clear hcode w0 htab
  by_cases hb : 4096 < len0
  · have hb' : (4096 : Int) < (len0 : Int) := by omega
    go_enter Tryd.func3, Tryd.ntmps3
    go_wp2
    go_ret
    exact ⟨rfl, Below.refl _ _⟩
  · have hb' : ¬ (4096 : Int) < (len0 : Int) := by omega
    go_enter Tryd.func3, Tryd.ntmps3
    go_wp2_with (first | (go_at_call 6; go_in) | fail)
    refine (DrawSigned_any _ _ _ _ HC_0.out (by omega)).mono ?_
    rintro e w1 ⟨n, s, hs, rfl, hbl⟩
    have HC_1 := hidIt (Dr.Code.kept HC_0.out hbl)
    have HB_1 := hidIt hbl
    clear hbl HC_0
    obtain ⟨u, v, t, k1, k2, f, ci, cs, ck, cq, hf⟩ := schn n s hs
    have CI := hidIt ci
    have CS := hidIt cs
    have CK := hidIt ck
    have CQ := hidIt cq
    have HF := hidIt hf
    have hff : (f != f) = false := by simp
    have HI := hidIt (fun w => impl_Hash s w (by omega))
    have HS := hidIt (fun w => spec_Hash s w (by omega))
    generalize (hashN (nums s) : Int) = hv at HI HS
    have hhv : (hv != hv) = false := by simp
    clear ci cs ck cq hf
    go_wp2_with (fail)
    refine (CI.out _ (HT.out.kept HB_1.out)).mono ?_
    rintro e w2 ⟨rfl, hb⟩
    have HB_2 := hidIt (below_next HB_1.out hb)
    have HC_2 := hidIt (code_next HC_1.out hb)
    clear HB_1 hb HC_1
    go_wp2_with (fail)
    refine (DrawValid_any _ _ _ _ (code_old HC_2.out) (by omega)).mono ?_
    rintro e w3 ⟨x, y, s2, p, q, t9, hs2, rfl, hb⟩
    have t5_3 := hidIt (((Tri.newAt (x := u) (y := v) (z := t) (k := w2.heap.size) rfl)).next hb)
    have HB_3 := hidIt (below_next (below_old HB_2.out) hb)
    have HC_3 := hidIt (code_next (code_old HC_2.out) hb)
    clear HB_2 hb HC_2
    have t5c := t5_3.out.c0
    have t5d := t5_3.out.c1
    have t5l := t5_3.out.lt
    have t5e := t5_3.out.c2
    obtain ⟨fv, vs, vi⟩ := valid_both x y s2 p q t9 (by omega)
    have VS := hidIt vs
    have VI := hidIt vi
    have hfv : (fv != fv) = false := by simp
    clear vs vi
    go_wp2_with (fail)
    refine (DrawChallenge_any _ _ _ _ (code_old (code_old HC_3.out)) (by omega)).mono ?_
    rintro e w4 ⟨x3, y3, x4, y4, s3, hs3, rfl, hb⟩
    clear t5c t5d t5l t5e
    have t5_4 := hidIt ((((t5_3.out).old).old).next hb)
    clear t5_3
    have t7_4 := hidIt ((((Tw.newAt (x := x) (y := y) (k := w3.heap.size) rfl)).old).next hb)
    have t9_4 := hidIt (((Tri.newAt (x := p) (y := q) (z := t9) (k := (w3.heap.size + 1)) (by simp))).next hb)
    have HB_4 := hidIt (below_next (below_old (below_old HB_3.out)) hb)
    have HC_4 := hidIt (code_next (code_old (code_old HC_3.out)) hb)
    clear HB_3 hb HC_3
    have t5c := t5_4.out.c0
    have t5d := t5_4.out.c1
    have t5l := t5_4.out.lt
    have t5e := t5_4.out.c2
    have t7c := t7_4.out.c0
    have t7d := t7_4.out.c1
    have t7l := t7_4.out.lt
    have t9c := t9_4.out.c0
    have t9d := t9_4.out.c1
    have t9l := t9_4.out.lt
    have t9e := t9_4.out.c2
    obtain ⟨cc, xs, xi⟩ := chall_both x3 y3 x4 y4 s3 (by omega)
    have XS := hidIt xs
    have XI := hidIt xi
    have hcc : (cc != cc) = false := by simp
    clear xs xi
    go_wp2_with (fail)
    refine (CK.out _).mono ?_
    rintro e w5 ⟨rfl, hb⟩
    clear t5c t5d t5l t5e t7c t7d t7l t9c t9d t9l t9e
    have t5_5 := hidIt ((((t5_4.out).old).old).next hb)
    clear t5_4
    have t7_5 := hidIt ((((t7_4.out).old).old).next hb)
    clear t7_4
    have t9_5 := hidIt ((((t9_4.out).old).old).next hb)
    clear t9_4
    have t10_5 := hidIt ((((Tw.newAt (x := x3) (y := y3) (k := w4.heap.size) rfl)).old).next hb)
    have t11_5 := hidIt (((Tw.newAt (x := x4) (y := y4) (k := (w4.heap.size + 1)) (by simp))).next hb)
    have HB_5 := hidIt (below_next (below_old (below_old HB_4.out)) hb)
    have HC_5 := hidIt (code_next (code_old (code_old HC_4.out)) hb)
    clear HB_4 hb HC_4
    have t5c := t5_5.out.c0
    have t5d := t5_5.out.c1
    have t5l := t5_5.out.lt
    have t5e := t5_5.out.c2
    have t7c := t7_5.out.c0
    have t7d := t7_5.out.c1
    have t7l := t7_5.out.lt
    have t9c := t9_5.out.c0
    have t9d := t9_5.out.c1
    have t9l := t9_5.out.lt
    have t9e := t9_5.out.c2
    have t10c := t10_5.out.c0
    have t10d := t10_5.out.c1
    have t10l := t10_5.out.lt
    have t11c := t11_5.out.c0
    have t11d := t11_5.out.c1
    have t11l := t11_5.out.lt
    go_wp2_with (fail)
    refine (CS.out _).mono ?_
    rintro e w6 ⟨rfl, hb⟩
    clear t5c t5d t5l t5e t7c t7d t7l t9c t9d t9l t9e t10c t10d t10l t11c t11d t11l
    have t5_6 := hidIt (((t5_5.out).old).next hb)
    clear t5_5
    have t7_6 := hidIt (((t7_5.out).old).next hb)
    clear t7_5
    have t9_6 := hidIt (((t9_5.out).old).next hb)
    clear t9_5
    have t10_6 := hidIt (((t10_5.out).old).next hb)
    clear t10_5
    have t11_6 := hidIt (((t11_5.out).old).next hb)
    clear t11_5
    have t13_6 := hidIt (((Tw.newAt (x := k1) (y := k2) (k := w5.heap.size) rfl)).next hb)
    have HB_6 := hidIt (below_next (below_old HB_5.out) hb)
    have HC_6 := hidIt (code_next (code_old HC_5.out) hb)
    clear HB_5 hb HC_5
    have t5c := t5_6.out.c0
    have t5d := t5_6.out.c1
    have t5l := t5_6.out.lt
    have t5e := t5_6.out.c2
    have t7c := t7_6.out.c0
    have t7d := t7_6.out.c1
    have t7l := t7_6.out.lt
    have t9c := t9_6.out.c0
    have t9d := t9_6.out.c1
    have t9l := t9_6.out.lt
    have t9e := t9_6.out.c2
    have t10c := t10_6.out.c0
    have t10d := t10_6.out.c1
    have t10l := t10_6.out.lt
    have t11c := t11_6.out.c0
    have t11d := t11_6.out.c1
    have t11l := t11_6.out.lt
    have t13c := t13_6.out.c0
    have t13d := t13_6.out.c1
    have t13l := t13_6.out.lt
    go_upto_region 9 with fail
    have Ft5 : Hid (Tri (w6.alloc (.cells #[.int .i64 u, .int .i64 v, .int .i64 t] 29)) w2.heap.size u v t) := hidIt ((t5_6.out).old)
    have Ft7 : Hid (Tw (w6.alloc (.cells #[.int .i64 u, .int .i64 v, .int .i64 t] 29)) w3.heap.size x y) := hidIt ((t7_6.out).old)
    have Ft9 : Hid (Tri (w6.alloc (.cells #[.int .i64 u, .int .i64 v, .int .i64 t] 29)) (w3.heap.size + 1) p q t9) := hidIt ((t9_6.out).old)
    have Ft10 : Hid (Tw (w6.alloc (.cells #[.int .i64 u, .int .i64 v, .int .i64 t] 29)) w4.heap.size x3 y3) := hidIt ((t10_6.out).old)
    have Ft11 : Hid (Tw (w6.alloc (.cells #[.int .i64 u, .int .i64 v, .int .i64 t] 29)) (w4.heap.size + 1) x4 y4) := hidIt ((t11_6.out).old)
    have Ft13 : Hid (Tw (w6.alloc (.cells #[.int .i64 u, .int .i64 v, .int .i64 t] 29)) w5.heap.size k1 k2) := hidIt ((t13_6.out).old)
    have Ft15 : Hid (Tri (w6.alloc (.cells #[.int .i64 u, .int .i64 v, .int .i64 t] 29)) w6.heap.size u v t) := hidIt ((Tri.newAt (x := u) (y := v) (z := t) (k := w6.heap.size) rfl))
    have HBz : Hid (Below w.heap.size w (w6.alloc (.cells #[.int .i64 u, .int .i64 v, .int .i64 t] 29))) := hidIt (below_old HB_6.out)
    have HCz : Hid (Dr.Code (w6.alloc (.cells #[.int .i64 u, .int .i64 v, .int .i64 t] 29)).heap.size (w6.alloc (.cells #[.int .i64 u, .int .i64 v, .int .i64 t] 29)) a0 len0) := hidIt (code_old HC_6.out)
    clear t5c t5d t5l t5e t7c t7d t7l t9c t9d t9l t9e t10c t10d t10l t11c t11d t11l t13c t13d t13l
    clear t5_6 t7_6 t9_6 t10_6 t11_6 t13_6 HB_6 HC_6
    generalize (w6.alloc (.cells #[.int .i64 u, .int .i64 v, .int .i64 t] 29)) = wz at Ft5 Ft7 Ft9 Ft10 Ft11 Ft13 Ft15 HBz HCz ⊢
    generalize hbt9 : (w3.heap.size + 1) = bt9 at Ft9 ⊢
    clear hbt9
    generalize hbt11 : (w4.heap.size + 1) = bt11 at Ft11 ⊢
    clear hbt11
    generalize hbt5 : w2.heap.size = bt5 at Ft5 ⊢
    clear hbt5
    generalize hbt7 : w3.heap.size = bt7 at Ft7 ⊢
    clear hbt7
    generalize hbt10 : w4.heap.size = bt10 at Ft10 ⊢
    clear hbt10
    generalize hbt13 : w5.heap.size = bt13 at Ft13 ⊢
    clear hbt13
    generalize hbt15 : w6.heap.size = bt15 at Ft15 ⊢
    clear hbt15
    have t5f0 := Ft5.out.c0
    have t5f1 := Ft5.out.c1
    have t5f2 := Ft5.out.c2
    have t5fl := Ft5.out.lt
    have t15f0 := Ft15.out.c0
    have t15f1 := Ft15.out.c1
    have t15f2 := Ft15.out.c2
    have t15fl := Ft15.out.lt
    have t9f0 := Ft9.out.c0
    have t9f1 := Ft9.out.c1
    have t9f2 := Ft9.out.c2
    have t9fl := Ft9.out.lt
    have t7f0 := Ft7.out.c0
    have t7f1 := Ft7.out.c1
    have t7fl := Ft7.out.lt
    have t10f0 := Ft10.out.c0
    have t10f1 := Ft10.out.c1
    have t10fl := Ft10.out.lt
    have t11f0 := Ft11.out.c0
    have t11f1 := Ft11.out.c1
    have t11fl := Ft11.out.lt
    go_region_held3 (fun w' => w'.cell? ⟨bt5, 0, none⟩ = some (.int .i64 u) ∧ w'.cell? ⟨bt5, 1, none⟩ = some (.int .i64 v) ∧ w'.cell? ⟨bt5, 2, none⟩ = some (.int .i64 t) ∧ w'.cell? ⟨bt15, 0, none⟩ = some (.int .i64 u) ∧ w'.cell? ⟨bt15, 1, none⟩ = some (.int .i64 v) ∧ w'.cell? ⟨bt15, 2, none⟩ = some (.int .i64 t) ∧ w'.cell? ⟨bt9, 0, none⟩ = some (.int .i64 p) ∧ w'.cell? ⟨bt9, 1, none⟩ = some (.int .i64 q) ∧ w'.cell? ⟨bt9, 2, none⟩ = some (.int .i64 t9) ∧ w'.cell? ⟨bt7, 0, none⟩ = some (.int .i64 x) ∧ w'.cell? ⟨bt7, 1, none⟩ = some (.int .i64 y) ∧ w'.cell? ⟨bt10, 0, none⟩ = some (.int .i64 x3) ∧ w'.cell? ⟨bt10, 1, none⟩ = some (.int .i64 y3) ∧ w'.cell? ⟨bt11, 0, none⟩ = some (.int .i64 x4) ∧ w'.cell? ⟨bt11, 1, none⟩ = some (.int .i64 y4)) (first | assumption | exact ⟨t5f0, t5f1, t5f2, t15f0, t15f1, t15f2, t9f0, t9f1, t9f2, t7f0, t7f1, t10f0, t10f1, t11f0, t11f1⟩ | (with_reducible refine held15 hbwE (by assumption) ?_ ?_ ?_ ?_ ?_ ?_ <;> omega) | (with_reducible refine held15 hbwD (by assumption) ?_ ?_ ?_ ?_ ?_ ?_ <;> omega) | (with_reducible refine held15 hbwC (by assumption) ?_ ?_ ?_ ?_ ?_ ?_ <;> omega) | (with_reducible refine held15 hbwB (by assumption) ?_ ?_ ?_ ?_ ?_ ?_ <;> omega) | (with_reducible refine held15_drew hbwA (by assumption) ?_ ?_ ?_ ?_ ?_ ?_ <;> omega) | (with_reducible refine held15_drew hbwA ⟨t5f0, t5f1, t5f2, t15f0, t15f1, t15f2, t9f0, t9f1, t9f2, t7f0, t7f1, t10f0, t10f1, t11f0, t11f1⟩ ?_ ?_ ?_ ?_ ?_ ?_ <;> omega) | go_keep)
      (first
        | (go_at_call 13; refine (VI.out _ (HT.out.kept (below_next HBz.out (Below.drew (Below.refl _ _))))).mono ?_; rintro e wA ⟨rfl, hbwA⟩; have zwA : wz.heap.size ≤ wA.heap.size := (by have := hbwA.size; (try simp at this); omega); have awA := below_next (w0 := wz) (Below.drew (Below.refl _ _)) hbwA)
        | (go_at_call 14; refine (VS.out _).mono ?_; rintro e wB ⟨rfl, hbwB⟩; have zwB : wz.heap.size ≤ wB.heap.size := (by have := hbwB.size; (try simp at this); omega); have awB := below_next (w0 := wz) awA hbwB)
        | (go_at_call 15; refine (XI.out _ (HT.out.kept (below_next HBz.out awB))).mono ?_; rintro e wC ⟨rfl, hbwC⟩; have zwC : wz.heap.size ≤ wC.heap.size := (by have := hbwC.size; (try simp at this); omega); have awC := below_next (w0 := wz) awB hbwC)
        | (go_at_call 16; refine (XS.out _).mono ?_; rintro e wD ⟨rfl, hbwD⟩; have zwD : wz.heap.size ≤ wD.heap.size := (by have := hbwD.size; (try simp at this); omega); have awD := below_next (w0 := wz) awC hbwD)
        | (go_at_call 17; refine (HI.out _).mono ?_; rintro e wE ⟨rfl, hbwE⟩; have zwE : wz.heap.size ≤ wE.heap.size := (by have := hbwE.size; (try simp at this); omega); have awE := below_next (w0 := wz) awD hbwE)
        | (go_at_call 18; refine (HS.out _).mono ?_; rintro e w7 ⟨rfl, rfl⟩))
    have t5_7 := hidIt (Ft5.out.next awE)
    have t7_7 := hidIt (Ft7.out.next awE)
    have t9_7 := hidIt (Ft9.out.next awE)
    have t10_7 := hidIt (Ft10.out.next awE)
    have t11_7 := hidIt (Ft11.out.next awE)
    have t13_7 := hidIt (Ft13.out.next awE)
    have t15_7 := hidIt (Ft15.out.next awE)
    have HB_7 := hidIt (below_next HBz.out awE)
    have HC_7 := hidIt (code_next HCz.out awE)
    clear HBz HCz Ft5 Ft7 Ft9 Ft10 Ft11 Ft13 Ft15 t5f0 t5f1 t5f2 t15f0 t15f1 t15f2 t9f0 t9f1 t9f2 t7f0 t7f1 t10f0 t10f1 t11f0 t11f1 t5fl t15fl t9fl t7fl t10fl t11fl hbwA zwA awA hbwB zwB awB hbwC zwC awC hbwD zwD awD hbwE zwE awE
    clear t7_7
    clear t9_7
    clear t10_7
    clear t11_7
    clear t15_7
    have t5c := t5_7.out.c0
    have t5d := t5_7.out.c1
    have t5l := t5_7.out.lt
    have t5e := t5_7.out.c2
    have t13c := t13_7.out.c0
    have t13d := t13_7.out.c1
    have t13l := t13_7.out.lt
    go_wp2_with (fail)
    refine (CQ.out _).mono ?_
    rintro e w8 ⟨rfl, hb⟩
    clear t5c t5d t5l t5e t13c t13d t13l
    have t5_8 := hidIt ((t5_7.out).next hb)
    clear t5_7
    have t13_8 := hidIt ((t13_7.out).next hb)
    clear t13_7
    have HB_8 := hidIt (below_next HB_7.out hb)
    have HC_8 := hidIt (code_next HC_7.out hb)
    clear HB_7 hb HC_7
    have t5c := t5_8.out.c0
    have t5d := t5_8.out.c1
    have t5l := t5_8.out.lt
    have t5e := t5_8.out.c2
    have t13c := t13_8.out.c0
    have t13d := t13_8.out.c1
    have t13l := t13_8.out.lt
    rcases HF.out with ⟨rfl, rfl, rfl, rfl⟩ | ⟨rfl, tn, c, l1, l2, m1, m2, rfl, htn, hc, g1, g2, g3, g4, g5, g6, g7⟩
    · clear HF hff
      go_wp2_with (fail)
      go_ret
      exact ⟨rfl, below_old HB_8.out⟩
    · have G1 := hidIt g1
      have G2 := hidIt g2
      have G3 := hidIt g3
      have G4 := hidIt g4
      have G5 := hidIt g5
      have G6 := hidIt g6
      have G7 := hidIt g7
      have tn0 : (0 : Int) ≤ (tn : Int) := by omega
      have tn1 : (tn : Int) < 2549 := by omega
      have c0 : (0 : Int) ≤ (c : Int) := by omega
      have c1 : (c : Int) < 2549 := by omega
      clear HF hff g1 g2 g3 g4 g5 g6 g7
      go_upto_region 17 with fail
      have h5n : ¬ bt5 = (w8.heap.size + 1) := by have := t5_8.out.lt; omega
      have h13n : ¬ bt13 = (w8.heap.size + 1) := by have := t13_8.out.lt; omega
      have h19 : w.heap.size ≤ (w8.heap.size + 1) := by have := HB_8.out.size; omega
      have Ft5 : Hid (Tri ((w8.alloc (.cells #[.int .i64 k1, .int .i64 k2] 27)).alloc (.cells #[.int .i64 u, .int .i64 v, .int .i64 (tn : Int)] 29)) bt5 u v (tn : Int)) := hidIt (((t5_8.out).old).old)
      have Ft13 : Hid (Tw ((w8.alloc (.cells #[.int .i64 k1, .int .i64 k2] 27)).alloc (.cells #[.int .i64 u, .int .i64 v, .int .i64 (tn : Int)] 29)) bt13 k1 k2) := hidIt (((t13_8.out).old).old)
      have Ft17 : Hid (Tw ((w8.alloc (.cells #[.int .i64 k1, .int .i64 k2] 27)).alloc (.cells #[.int .i64 u, .int .i64 v, .int .i64 (tn : Int)] 29)) w8.heap.size k1 k2) := hidIt (((Tw.newAt (x := k1) (y := k2) (k := w8.heap.size) rfl)).old)
      have Ft19 : Hid (Tri ((w8.alloc (.cells #[.int .i64 k1, .int .i64 k2] 27)).alloc (.cells #[.int .i64 u, .int .i64 v, .int .i64 (tn : Int)] 29)) (w8.heap.size + 1) u v (tn : Int)) := hidIt ((Tri.newAt (x := u) (y := v) (z := (tn : Int)) (k := (w8.heap.size + 1)) (by simp)))
      have HBz : Hid (Below w.heap.size w ((w8.alloc (.cells #[.int .i64 k1, .int .i64 k2] 27)).alloc (.cells #[.int .i64 u, .int .i64 v, .int .i64 (tn : Int)] 29))) := hidIt (below_old (below_old HB_8.out))
      have HCz : Hid (Dr.Code ((w8.alloc (.cells #[.int .i64 k1, .int .i64 k2] 27)).alloc (.cells #[.int .i64 u, .int .i64 v, .int .i64 (tn : Int)] 29)).heap.size ((w8.alloc (.cells #[.int .i64 k1, .int .i64 k2] 27)).alloc (.cells #[.int .i64 u, .int .i64 v, .int .i64 (tn : Int)] 29)) a0 len0) := hidIt (code_old (code_old HC_8.out))
      clear t5c t5d t5l t5e t13c t13d t13l
      clear t5_8 t13_8 HB_8 HC_8
      generalize ((w8.alloc (.cells #[.int .i64 k1, .int .i64 k2] 27)).alloc (.cells #[.int .i64 u, .int .i64 v, .int .i64 (tn : Int)] 29)) = wy at Ft5 Ft13 Ft17 Ft19 HBz HCz ⊢
      generalize hb19 : (w8.heap.size + 1) = bt19 at Ft19 h5n h13n h19 ⊢
      clear hb19
      have f0 := Ft5.out.c2
      have f1 := Ft19.out.c2
      have f2 := Ft19.out.f2
      have f3 := Ft19.out.lt
      have f4 := Ft5.out.lt
      have HCd : Hid (Dr.Code wy.heap.size wy.drew a0 len0) := hidIt ⟨HCz.out.cell⟩
      have hl0 : len0 ≤ 4096 := by omega
      have e1 : IntKind.i64.wrap ((tn : Int) + 1) = (tn : Int) + 1 := wrap_small _ (by omega) (by omega)
      go_cut [2] from 27 to 183 (fun r2 wx => r2 = .bool false ∧ ∃ jn X : Nat, jn < 2548 ∧ Hid (X = (tn + 1 + jn) % 2549) ∧ Tri wx bt19 u v (X : Int) ∧ Only bt19 wy wx)
      case first =>
        go_region_with (go_at_call 20; refine (Dr.pick_any _ _ _ _ _ _ _ HCd.out hl0 (by decide) (by decide) (by decide)).mono ?_; rintro e wp ⟨jj, jj0, jj1, rfl, rfl⟩; obtain ⟨jn, rfl⟩ := Int.eq_ofNat_of_zero_le jj0; have e2 : IntKind.i64.wrap ((tn : Int) + 1 + (jn : Int)) = (tn : Int) + 1 + (jn : Int) := wrap_small _ (by omega) (by omega); obtain ⟨X, hX⟩ : ∃ X : Nat, X = (tn + 1 + jn) % 2549 := ⟨_, rfl⟩; have e3 : ((tn : Int) + 1 + (jn : Int)).tmod 2549 = (X : Int) := (by rw [Int.tmod_eq_emod_of_nonneg (by omega), hX]; omega); have e4 : ((tn : Int) + 1 + (jn : Int)) % 2549 = (X : Int) := (by rw [hX]; omega); have HX := hidIt hX; clear hX)
        all_goals
          go_wp2_with fail
          go_meet
          first
            | exact ⟨rfl, jn, X, by omega, HX, Ft19.out.put2.drew, ((Only.refl bt19 wy).setCell 2 _).drew⟩
            | exact ⟨rfl, jn, X, by omega, HX, Ft19.out.put2, (Only.refl bt19 wy).setCell 2 _⟩
      case rest =>
        obtain ⟨rfl, jn, X, hjn, HX, hT19, hO⟩ := hcut
        have g6 := G6.out jn hjn
        rw [← HX.out] at g6
        have G6' := hidIt g6
        clear g6 G6 HX
        have E5 := hidIt (Ft5.out.only hO h5n)
        have E13 := hidIt (tw_only Ft13.out hO h13n)
        have E19 := hidIt hT19
        have HBx := hidIt (HBz.out.trans (hO.below (B := w.heap.size) h19 HBz.out.size))
        clear f0 f1 f2 f3 f4 hT19 hO Ft5 Ft13 Ft19 Ft17 HBz HCz
        have n0 := E5.out.c0
        have n1 := E5.out.c1
        have n2 := E13.out.c0
        have n3 := E13.out.c1
        go_wp2_with (fail)
        refine (G1.out _ (HT.out.kept HBx.out)).mono ?_
        rintro e wa ⟨rfl, hb⟩
        have A5 := hidIt (E5.out.next hb)
        have A13 := hidIt (E13.out.next hb)
        have A19 := hidIt (E19.out.next hb)
        have HBa := hidIt (below_next HBx.out hb)
        clear hb n0 n1 n2 n3 E5 E13 E19 HBx
        have f0 := A5.out.c2
        have f1 := A5.out.lt
        have f2 : bt5 < wa.heap.size + 1 := by omega
        go_upto_region 19 with fail
        go_cut [21, 22] from 27 to 183 (fun s21 s22 wq => ∃ tb : Nat, s21 = .pointer (some ⟨tb, 0, none⟩) ∧ s22 = .bool true ∧ Tw wq tb l1 l2 ∧ Below wa.heap.size wa wq)
        case first =>
          go_region_with (first
            | (go_at_call 22; refine (impl_Base _).mono ?_; rintro e wN ⟨rfl, hbN⟩; have EN : Tri wN bt5 u v (tn : Int) := (by first | (with_reducible exact A5.out.drew.next hbN) | (with_reducible exact A5.out.drew.old.next hbN) | (with_reducible exact A5.out.old.drew.next hbN)); have eN0 := EN.c2; have eN2 := EN.lt; clear EN; obtain ⟨hcN, hfN⟩ := bcell hbN; have zN0 : wa.heap.size ≤ wN.heap.size := (by have := hbN.size; (try simp at this); omega); have zN2 : bt5 < wN.heap.size + 1 := (by omega); (try have zN3 : wa.heap.size < wN.heap.size := (by have := hbN.size; (try simp at this); omega)))
            | (go_at_call 21; refine (G2.out _).mono ?_; rintro e wM ⟨rfl, hbM⟩; obtain ⟨hcM, hfM⟩ := bcell hbM; have zM0 : wa.heap.size ≤ wM.heap.size := (by have := hbM.size; (try simp at this); omega); (try have zM3 : wa.heap.size < wM.heap.size := (by have := hbM.size; (try simp at this); omega)); (try have zM4 : wN.heap.size < wM.heap.size := (by have := hbM.size; (try simp at this); omega))))
          all_goals
            go_wp2_with fail
            go_meet
            have bN : Below wa.heap.size wa wN := by
              first
                | exact (Below.refl wa.heap.size wa).drew.trans (hbN.mono (B' := wa.heap.size) (by (try simp); (try omega)))
                | exact ((Below.refl wa.heap.size wa).drew.alloc (by (try simp); (try omega)) _).trans (hbN.mono (B' := wa.heap.size) (by (try simp); (try omega)))
                | exact ((Below.refl wa.heap.size wa).alloc (by (try simp); (try omega)) _).drew.trans (hbN.mono (B' := wa.heap.size) (by (try simp); (try omega)))
            have sN := bN.size
            have bM : Below wa.heap.size wa wM := by
              first
                | exact bN.trans (hbM.mono (B' := wa.heap.size) (by (try simp at sN); (try simp); (try omega)))
                | exact (bN.alloc (by (try simp at sN); omega) _).trans (hbM.mono (B' := wa.heap.size) (by (try simp at sN); simp; omega))
            have sM := bM.size
            (try simp at sN sM)
            first
              | exact ⟨_, rfl, rfl, Tw.newAt rfl, bM.alloc (by omega) _⟩
              | exact ⟨_, rfl, rfl, Tw.put (v0 := .int .i64 0) (v1 := .int .i64 0) (by omega) (by first | (simp [*]; done) | (simp [*]; exact (Tw.newAt (by simp)).c0)) (by first | (simp [*]; done) | (simp [*]; exact (Tw.newAt (by simp)).c1)), (bM.setCell (by (try simp); (try omega)) _).setCell (by (try simp); (try omega)) _⟩
        case rest =>
          obtain ⟨tb, rfl, rfl, hT21, hB⟩ := hcut
          have t5_0 := hidIt (A5.out.next hB)
          have t13_0 := hidIt (A13.out.next hB)
          have t19_0 := hidIt (A19.out.next hB)
          have t21_0 := hidIt hT21
          have HB_0 := hidIt (below_next HBa.out hB)
          clear f0 f1 f2 hT21 hB A5 A13 A19 HBa
          generalize wc = w0 at t5_0 t13_0 t19_0 t21_0 HB_0 ⊢
          have t5c := t5_0.out.c0
          have t5d := t5_0.out.c1
          have t5l := t5_0.out.lt
          have t5e := t5_0.out.c2
          have t13c := t13_0.out.c0
          have t13d := t13_0.out.c1
          have t13l := t13_0.out.lt
          have t19c := t19_0.out.c0
          have t19d := t19_0.out.c1
          have t19l := t19_0.out.lt
          have t19e := t19_0.out.c2
          have t21c := t21_0.out.c0
          have t21d := t21_0.out.c1
          have t21l := t21_0.out.lt
          go_wp2_with (fail)
          refine (G3.out _).mono ?_
          rintro e w1 ⟨rfl, hb⟩
          clear t5c t5d t5l t5e t13c t13d t13l t19c t19d t19l t19e t21c t21d t21l
          have t5_1 := hidIt ((t5_0.out).next hb)
          clear t5_0
          have t13_1 := hidIt ((t13_0.out).next hb)
          clear t13_0
          have t19_1 := hidIt ((t19_0.out).next hb)
          clear t19_0
          have t21_1 := hidIt ((t21_0.out).next hb)
          clear t21_0
          have HB_1 := hidIt (below_next HB_0.out hb)
          clear HB_0 hb
          have t5c := t5_1.out.c0
          have t5d := t5_1.out.c1
          have t5l := t5_1.out.lt
          have t5e := t5_1.out.c2
          have t13c := t13_1.out.c0
          have t13d := t13_1.out.c1
          have t13l := t13_1.out.lt
          have t19c := t19_1.out.c0
          have t19d := t19_1.out.c1
          have t19l := t19_1.out.lt
          have t19e := t19_1.out.c2
          have t21c := t21_1.out.c0
          have t21d := t21_1.out.c1
          have t21l := t21_1.out.lt
          go_wp2_with (fail)
          refine (G4.out _).mono ?_
          rintro e w2 ⟨rfl, hb⟩
          clear t5c t5d t5l t5e t13c t13d t13l t19c t19d t19l t19e t21c t21d t21l
          have t5_2 := hidIt (((t5_1.out).old).next hb)
          clear t5_1
          have t13_2 := hidIt (((t13_1.out).old).next hb)
          clear t13_1
          have t19_2 := hidIt (((t19_1.out).old).next hb)
          clear t19_1
          have t21_2 := hidIt (((t21_1.out).old).next hb)
          clear t21_1
          have t23_2 := hidIt (((Tw.newAt (x := m1) (y := m2) (k := w1.heap.size) rfl)).next hb)
          have HB_2 := hidIt (below_next (below_old HB_1.out) hb)
          clear HB_1 hb
          have t5c := t5_2.out.c0
          have t5d := t5_2.out.c1
          have t5l := t5_2.out.lt
          have t5e := t5_2.out.c2
          have t13c := t13_2.out.c0
          have t13d := t13_2.out.c1
          have t13l := t13_2.out.lt
          have t19c := t19_2.out.c0
          have t19d := t19_2.out.c1
          have t19l := t19_2.out.lt
          have t19e := t19_2.out.c2
          have t21c := t21_2.out.c0
          have t21d := t21_2.out.c1
          have t21l := t21_2.out.lt
          have t23c := t23_2.out.c0
          have t23d := t23_2.out.c1
          have t23l := t23_2.out.lt
          go_wp2_with (fail)
          refine (G5.out _ (HT.out.kept (below_old HB_2.out))).mono ?_
          rintro e w3 ⟨rfl, hb⟩
          clear t5c t5d t5l t5e t13c t13d t13l t19c t19d t19l t19e t21c t21d t21l t23c t23d t23l
          have t5_3 := hidIt (((t5_2.out).old).next hb)
          clear t5_2
          have t13_3 := hidIt (((t13_2.out).old).next hb)
          clear t13_2
          have t19_3 := hidIt (((t19_2.out).old).next hb)
          clear t19_2
          have t21_3 := hidIt (((t21_2.out).old).next hb)
          clear t21_2
          have t23_3 := hidIt (((t23_2.out).old).next hb)
          clear t23_2
          have t25_3 := hidIt (((Tw.newAt (x := l1) (y := l2) (k := w2.heap.size) rfl)).next hb)
          have HB_3 := hidIt (below_next (below_old HB_2.out) hb)
          clear HB_2 hb
          have t5c := t5_3.out.c0
          have t5d := t5_3.out.c1
          have t5l := t5_3.out.lt
          have t5e := t5_3.out.c2
          have t13c := t13_3.out.c0
          have t13d := t13_3.out.c1
          have t13l := t13_3.out.lt
          have t19c := t19_3.out.c0
          have t19d := t19_3.out.c1
          have t19l := t19_3.out.lt
          have t19e := t19_3.out.c2
          have t21c := t21_3.out.c0
          have t21d := t21_3.out.c1
          have t21l := t21_3.out.lt
          have t23c := t23_3.out.c0
          have t23d := t23_3.out.c1
          have t23l := t23_3.out.lt
          have t25c := t25_3.out.c0
          have t25d := t25_3.out.c1
          have t25l := t25_3.out.lt
          go_wp2_with (fail)
          refine (G6'.out _ (HT.out.kept HB_3.out)).mono ?_
          rintro e w4 ⟨rfl, hb⟩
          clear t5c t5d t5l t5e t13c t13d t13l t19c t19d t19l t19e t21c t21d t21l t23c t23d t23l t25c t25d t25l
          have t5_4 := hidIt ((t5_3.out).next hb)
          clear t5_3
          have t13_4 := hidIt ((t13_3.out).next hb)
          clear t13_3
          have t19_4 := hidIt ((t19_3.out).next hb)
          clear t19_3
          have t21_4 := hidIt ((t21_3.out).next hb)
          clear t21_3
          have t23_4 := hidIt ((t23_3.out).next hb)
          clear t23_3
          have t25_4 := hidIt ((t25_3.out).next hb)
          clear t25_3
          have HB_4 := hidIt (below_next HB_3.out hb)
          clear HB_3 hb
          have t5c := t5_4.out.c0
          have t5d := t5_4.out.c1
          have t5l := t5_4.out.lt
          have t5e := t5_4.out.c2
          have t13c := t13_4.out.c0
          have t13d := t13_4.out.c1
          have t13l := t13_4.out.lt
          have t19c := t19_4.out.c0
          have t19d := t19_4.out.c1
          have t19l := t19_4.out.lt
          have t19e := t19_4.out.c2
          have t21c := t21_4.out.c0
          have t21d := t21_4.out.c1
          have t21l := t21_4.out.lt
          have t23c := t23_4.out.c0
          have t23d := t23_4.out.c1
          have t23l := t23_4.out.lt
          have t25c := t25_4.out.c0
          have t25d := t25_4.out.c1
          have t25l := t25_4.out.lt
          go_wp2_with (fail)
          refine (G7.out _).mono ?_
          rintro e w5 ⟨rfl, hb⟩
          clear t5c t5d t5l t5e t13c t13d t13l t19c t19d t19l t19e t21c t21d t21l t23c t23d t23l t25c t25d t25l
          have t5_5 := hidIt ((t5_4.out).next hb)
          clear t5_4
          have t13_5 := hidIt ((t13_4.out).next hb)
          clear t13_4
          have t19_5 := hidIt ((t19_4.out).next hb)
          clear t19_4
          have t21_5 := hidIt ((t21_4.out).next hb)
          clear t21_4
          have t23_5 := hidIt ((t23_4.out).next hb)
          clear t23_4
          have t25_5 := hidIt ((t25_4.out).next hb)
          clear t25_4
          have HB_5 := hidIt (below_next HB_4.out hb)
          clear HB_4 hb
          have t5c := t5_5.out.c0
          have t5d := t5_5.out.c1
          have t5l := t5_5.out.lt
          have t5e := t5_5.out.c2
          have t13c := t13_5.out.c0
          have t13d := t13_5.out.c1
          have t13l := t13_5.out.lt
          have t19c := t19_5.out.c0
          have t19d := t19_5.out.c1
          have t19l := t19_5.out.lt
          have t19e := t19_5.out.c2
          have t21c := t21_5.out.c0
          have t21d := t21_5.out.c1
          have t21l := t21_5.out.lt
          have t23c := t23_5.out.c0
          have t23d := t23_5.out.c1
          have t23l := t23_5.out.lt
          have t25c := t25_5.out.c0
          have t25d := t25_5.out.c1
          have t25l := t25_5.out.lt
          go_wp2_with (fail)
          go_ret
          exact ⟨rfl, HB_5.out⟩

theorem door_met (os : Os) (args : Array Value) : laidMetH Tryd.prog Rows.fnSchnorrRow.laid ((World.doorLaid Tryd.prog 24 os).forCall (fun _ _ => 0) ⟨#[], args, []⟩).memory :=
  laidMetH_of_parts3 (fuel := 8) (laidMet_of_run' 8 (by kernel_rfl) (by kernel_rfl)) (by kernel_rfl) (by kernel_rfl)
set_option maxRecDepth 100000 in
theorem lifted (os : Os) (started : os.Started) (H : Type) (enc : TypeId × Value → H) :
    ReturnsInHanded {} Tryd.checked os 3 .any (fun w args => (Rows.fnSchnorrSpec.pre enc Tryd.prog Tryd.f3 [] false w args ∧ laidMetH Tryd.prog Rows.fnSchnorrRow.laid w) ∧ sizedMet enc Tryd.prog Tryd.f3 (OpenSpec.ofChange Rows.fnSchnorrSpec) false w args) (Rows.fnSchnorrSpec.post enc Tryd.prog Tryd.f3 false true false false) := by
  refine returnsInHanded_of_change_and (C := Tryd.checked) (X := fun w _ => laidMetH Tryd.prog Rows.fnSchnorrRow.laid w) (fun _ _ _ hh h => h.of_heap hh) own started (by kernel_rfl) Tryd.func3
    (ChangeSpec.witness_shaped (enc := enc) (C := Tryd.checked) (os := os) (X := fun w _ => laidMetH Tryd.prog Rows.fnSchnorrRow.laid w) false (World.doorLaid Tryd.prog 24 os) #[.slice none 0 0] 8 rfl (World.shaped_of_RefB (by kernel_rfl) (by kernel_rfl)) (by kernel_rfl) (by kernel_rfl) (by kernel_rfl) (door_met os _)) ?_
  intro W base args ds gs before hval0 hW _ _ hL _
  have hval : ∀ (j : Nat) t v, Tryd.f3.params[j]? = some t → args[j]? = some v → Value.okWide Tryd.prog W .any base t v := hval0
  have hW' := hW
  obtain ⟨p, q, hA0, hV, rfl, hfz, hnd⟩ := hW
  have hA : DataW.TrodAll enc Tryd.prog W 0 (fun _ => true) true Tryd.f3.params.toList args.toList ds p := hA0
  rw [Tryd.params3] at hA hval
  obtain ⟨v0, vs0, d0, ds0, p0, q0, hargs, rfl, rfl, h0, r0⟩ := trodAll_cons hA
  obtain ⟨rfl, rfl, rfl⟩ := trodAll_nil r0
  obtain rfl : args = #[v0] := by cases args; simp_all
  obtain ⟨rfl, rfl⟩ := trodVars_none hV
  have k0 := h0
  have lt0 : ∀ x ∈ p0, x.block < W.heap.size := by obtain ⟨m, hm⟩ := k0; exact DataW.trod_lt m _ _ _ hm
  obtain ⟨a0, len0, cap0, rfl⟩ := okWide_slice Tryd.underlying22 (hval 0 22 v0 rfl rfl)
  obtain ⟨z0, w0⟩ : ∃ zs, IsRow .u8 W a0 len0 cap0 zs := by
    obtain ⟨fuel, hf⟩ := h0
    rcases open_ints Tryd.underlying22 Tryd.underlying5 (by kernel_rfl) hf with ⟨hcs, _⟩ | ⟨x, l, c, zs, hcs, _, hl, hm, hz, _, hcell, hwz⟩
    · simp [Value.cells] at hcs
      obtain ⟨rfl, rfl, rfl⟩ := hcs
      exact ⟨[], .inl ⟨rfl, rfl, rfl, rfl⟩⟩
    · simp [Value.cells] at hcs
      obtain ⟨rfl, rfl, rfl⟩ := hcs
      exact ⟨zs, .inr ⟨_, rfl, hl, hm, by simpa using hz, hcell, hwz⟩⟩
  clear hA0 hval0
  refine (walk a0 len0 cap0 z0 W w0 (Sg.tab_of_laid hL)).mono fun e W' ⟨he, bel⟩ => ?_
  subst he
  exact ⟨_, rfl, _, _, _, [], _, [], hW', trodAll_mk1 (shut_bool Tryd.underlying4 _), (trodAll_cons_mk (Below.trod laidOut (by kernel_rfl) (of_decide_eq_true (by kernel_rfl)) k0 bel lt0) trodAll_mk0), rfl, bel.frame _, fun h => by cases h⟩

theorem over : Rows.fnSchnorrRow.holds Tryd.pinned (OpenSpec.ofChange Rows.fnSchnorrSpec) :=
  OpenClaim.holds_of_wide 3 Tryd.f3 rfl rfl rfl rfl rfl rfl rfl ⟨rfl, rfl, rfl, rfl, rfl⟩ rfl rfl rfl rfl rfl (by kernel_rfl) Tryd.func3 (by kernel_rfl)
    (of_decide_eq_true (by kernel_rfl)) (by unfold Func.isWrapper; first | (rw [if_pos (by decide +kernel)]; kernel_rfl) | (rw [if_neg (by decide +kernel)]; exact ⟨rfl, rfl⟩))
    (fun os started H enc _ => lifted os started H enc)
theorem card : Rows.FnSchnorrCardSaid :=
  Claim7.holds_tied_plain_at .later [] [.data, .data, .data] true (true, "b5c8ee19ed266ba7e0c4cef473e607b58437db1abacc6038f89b18b326210750") false
    over (fun _ h => by cases h) (by kernel_rfl) (fun _ h => by cases h) fnSchnorr_row_tie rfl ⟨rfl, rfl⟩ (by kernel_rfl) rfl
    (fun f fn hf hfn => by
      obtain rfl : f = 3 := Option.some.inj ((show Tryd.prog.funcNamed "loop.example/g00307/laws.FnSchnorr" = some 3 by kernel_rfl).symm.trans hf) |>.symm
      obtain rfl : fn = Tryd.f3 := (Option.some.inj (Tryd.func3.symm.trans hfn)).symm
      exact ⟨by kernel_rfl, fun j t ht => by
        rw [Tryd.params3] at ht
        have hm : t ∈ [22] := by simpa using Array.mem_of_getElem? ht
        have hall : ([22].all fun u => !Tryd.prog.wantsStandIn u) = true := by kernel_rfl
        exact (show Tryd.prog.wantsStandIn t = false by simpa using List.all_eq_true.1 hall t hm)⟩)
    (by kernel_rfl)
end Go.Proofs.YtbjmijajngedoaaDoor.fnSchnorr
namespace Go.Proofs.YtbjmijajngedoaaDoor
theorem fnSchnorr_holds : Rows.FnSchnorrCardSaid := fnSchnorr.card
#print axioms fnSchnorr_holds
end Go.Proofs.YtbjmijajngedoaaDoor
