/-
  FnRoots answers true at every slice of bytes and leaves it as it was: just those Elements have a Root whose power of half of all others is one or nought, and a root is one. No condition.
-/
import Derived.Test.YtejlbllbiijnhaaRows
import Derived.WalkKit
import Derived.ProofKit
import Derived.OpenShut
import Derived.ShutString
import Derived.ChangeOld
import Derived.Below
import Derived.Test.YtejlbllbiijnhaaFieldAll
import Derived.Test.YtejlbllbiijnhaaDraw
namespace Go.Proofs.Ytejlbllbiijnhaa.fnRoots
open Go.ChangeShapes Go.WideShapes Go.ChangeAt Go.RowKit
open Go.ChangeMaps (open_string shut_string)
set_option linter.unusedVariables false

theorem own : ownKnob Try.prog.godebug = none := by kernel_rfl
theorem laidOut : laidOutB Try.prog = true := by kernel_rfl

/-- A row of integers that came in: nil, or cells at an address. -/
def IsRow (k : IntKind) (w : World) (a : Option Addr) (len cap : Nat) (zs : List Int) : Prop :=
  (a = none ∧ len = 0 ∧ cap = 0 ∧ zs = []) ∨
  ∃ x, a = some x ∧ len ≤ cap ∧ cap ≤ maxLen ∧ zs.length = cap ∧ (∀ i, i < zs.length → w.cell? (x.add i) = some (.int k (zs.getD i 0))) ∧ ∀ n ∈ zs, (Lit.int k n).wf = true

theorem code_of {w : World} {a : Option Addr} {len cap : Nat} {zs : List Int} (h : IsRow .u8 w a len cap zs) : Dr.Code w.heap.size w a len := by
  refine ⟨fun i hi => ?_⟩
  rcases h with ⟨rfl, rfl, rfl, rfl⟩ | ⟨x, rfl, hl, hm, hz, hcell, hwz⟩
  · omega
  · have hc := hcell i (by omega)
    obtain ⟨b, off, spot⟩ := x
    have h00 := hcell 0 (by omega)
    have hspot : spot = none := by simpa [Addr.add] using World.cell?_spot h00
    subst hspot
    have hc0 : w.cell? ⟨b, off + i, none⟩ = some (.int .u8 (zs.getD i 0)) := by
      by_cases e : i = 0
      · subst e; simpa [Addr.add] using hc
      · simpa [Addr.add, e] using hc
    have hw := hwz (zs.getD i 0) (by rw [List.getD_eq_getElem?_getD, List.getElem?_eq_getElem (by omega)]; simp)
    have hb : b < w.heap.size := by
      refine Decidable.byContradiction fun hn => ?_
      have hx : w.heap[b]? = none := by simp; omega
      simp [World.cell?, hx] at hc0
    have hbd := bounds_u8 hw
    exact ⟨b, off, _, rfl, hb, hc0, hbd.1, hbd.2⟩
theorem facts (a : Nat) (h : a < 10007) :
    (Pl.pw a 2502 * Pl.pw a 2502 % 10007 = a ∧ (Pl.pw a 5003 = 0 ∨ Pl.pw a 5003 = 1) ∧ Fd.rt (Pl.pw a 2502) * Fd.rt (Pl.pw a 2502) % 10007 = a ∧ Fd.rt (Pl.pw a 2502) + Fd.rt (Pl.pw a 2502) ≤ 10007 ∧ Fd.rt (Pl.pw a 2502) < 10007)
    ∨ (¬ Pl.pw a 2502 * Pl.pw a 2502 % 10007 = a ∧ Pl.pw a 5003 = 10006) := by
  have c := Pl.chk_all a h
  have hq := Pl.pw_lt a 2502
  unfold Pl.chk at c
  show (Pl.pw a 2502 * Pl.pw a 2502 % 10007 = a ∧ _) ∨ _
  change (((Pl.pw a 2502 * Pl.pw a 2502 % 10007 == a) == (Pl.pw a 5003 == 0 || Pl.pw a 5003 == 1)) && (Pl.pw a 5003 == 0 || Pl.pw a 5003 == 1 || Pl.pw a 5003 == 10006) && (!(Pl.pw a 2502 * Pl.pw a 2502 % 10007 == a) || (Fd.rt (Pl.pw a 2502) * Fd.rt (Pl.pw a 2502) % 10007 == a && decide (Fd.rt (Pl.pw a 2502) + Fd.rt (Pl.pw a 2502) ≤ 10007))) && _) = true at c
  have hr : Fd.rt (Pl.pw a 2502) < 10007 := by unfold Fd.rt; split <;> omega
  generalize Fd.rt (Pl.pw a 2502) = r at c hr
  generalize Pl.pw a 2502 * Pl.pw a 2502 % 10007 = s at c
  generalize Pl.pw a 5003 = g at c
  simp only [Bool.and_eq_true] at c
  obtain ⟨⟨⟨c1, c2⟩, c3⟩, -⟩ := c
  by_cases e : s = a
  · simp [e] at c1 c3
    exact .inl ⟨e, c1, c3.1, c3.2, hr⟩
  · have hs : (s == a) = false := by simp [e]
    rw [hs] at c1
    simp at c1 c2
    exact .inr ⟨e, by omega⟩
set_option maxRecDepth 100000 in
set_option maxHeartbeats 1600000 in

theorem walk (a0 : Option Addr) (len0 cap0 : Nat) (z0 : List Int) (w : World) (w0 : IsRow .u8 w a0 len0 cap0 z0) :
    Calls Try.prog 4 #[.slice a0 len0 cap0] w fun e w' => e = .returned (.bool true) ∧ Below w.heap.size w w' := by
  have hcode := code_of w0
  have HC : Hid (Dr.Code w.heap.size w a0 len0) := hcode
  clear hcode w0
  by_cases hb : 4096 < len0
  · have hb' : (4096 : Int) < (len0 : Int) := by omega
    go_enter Try.func4, Try.ntmps4
    go_wp2
    go_ret
    exact ⟨rfl, Below.refl _ _⟩
  · have hb' : ¬ (4096 : Int) < (len0 : Int) := by omega
    go_enter Try.func4, Try.ntmps4
    go_wp2_with (first | (go_at_call 5; go_in) | fail)
    refine (Dr.DrawRoot_any _ _ _ _ HC.out (by omega)).mono ?_
    rintro e w1 ⟨x, x0, x1, rfl, hbl⟩
    have HB : Hid (Below w.heap.size w w1) := hbl
    clear hbl
    by_cases hx : 0 ≤ x ∧ x < 10007
    · obtain ⟨a, rfl⟩ := Int.eq_ofNat_of_zero_le hx.1
      have ha : a < 10007 := by omega
      have hg := Pl.pw_lt a 5003
      have P5 := fun w => Fd.impl_Power a 5003 w ha (by decide)
      have ff := facts a ha
      rcases ff with ⟨fa, fb, fc, fd, fe⟩ | ⟨fa, fb⟩
      · have R1 := fun w => Fd.impl_Root_yes a w ha fa
        have R2 := fun w => Fd.spec_Root_yes a w ha fa
        clear fa
        generalize Fd.rt (Pl.pw a 2502) = r at R1 R2 fc fd fe
        have PP := fun w => Fd.impl_Product r r w fe fe
        rw [fc] at PP
        clear fc
        generalize Pl.pw a 5003 = g at hg P5 fb
        have HR1 := show Hid _ from R1
        have HR2 := show Hid _ from R2
        have HP5 := show Hid _ from P5
        have HPP := show Hid _ from PP
        clear R1 R2 P5 PP
        have r0 : (0 : Int) ≤ (r : Int) := by omega
        have r0' : ¬ (r : Int) < 0 := by omega
        have r1 : (r : Int) ≤ 10007 - (r : Int) := by omega
        rcases fb with rfl | rfl
        all_goals
          go_wp2_with fail
          refine (HR1.out _).mono ?_
          rintro e w2 ⟨rfl, rfl⟩
          go_wp2_with fail
          refine (HR2.out _).mono ?_
          rintro e w2 ⟨rfl, rfl⟩
          go_wp2_with fail
          refine (HP5.out _).mono ?_
          rintro e w2 ⟨rfl, rfl⟩
          go_wp2_with fail
          refine (HPP.out _).mono ?_
          rintro e w2 ⟨rfl, rfl⟩
          go_wp2
          go_ret
          exact ⟨rfl, HB.out⟩
      · have R1 := fun w => Fd.impl_Root_none a w ha fa
        have R2 := fun w => Fd.spec_Root_none a w ha fa
        clear fa
        rw [fb] at P5
        clear fb
        have HR1 := show Hid _ from R1
        have HR2 := show Hid _ from R2
        have HP5 := show Hid _ from P5
        clear R1 R2 P5
        go_wp2_with fail
        refine (HR1.out _).mono ?_
        rintro e w2 ⟨rfl, rfl⟩
        go_wp2_with fail
        refine (HR2.out _).mono ?_
        rintro e w2 ⟨rfl, rfl⟩
        go_wp2_with fail
        refine (HP5.out _).mono ?_
        rintro e w2 ⟨rfl, rfl⟩
        go_wp2
        go_ret
        exact ⟨rfl, HB.out⟩
    · have R1 := fun w => Fd.impl_Root_no x w hx
      have R2 := fun w => Fd.spec_Root_no x w hx
      have P5 := fun w => Fd.impl_Power_no x 5003 w (.inl hx)
      have HR1 := show Hid _ from R1
      have HR2 := show Hid _ from R2
      have HP5 := show Hid _ from P5
      clear R1 R2 P5 hx
      go_wp2_with fail
      refine (HR1.out _).mono ?_
      rintro e w2 ⟨rfl, rfl⟩
      go_wp2_with fail
      refine (HR2.out _).mono ?_
      rintro e w2 ⟨rfl, rfl⟩
      go_wp2_with fail
      refine (HP5.out _).mono ?_
      rintro e w2 ⟨rfl, rfl⟩
      go_wp2
      go_ret
      exact ⟨rfl, HB.out⟩

set_option maxRecDepth 100000 in
theorem lifted (os : Os) (started : os.Started) (H : Type) (enc : TypeId × Value → H) :
    ReturnsInHanded {} Try.checked os 4 .any (Rows.fnRootsSpec.pre6 enc Try.prog Try.f4 Rows.fnRootsRow.domain false) (Rows.fnRootsSpec.post enc Try.prog Try.f4 false true false false) := by
  refine returnsInHanded_of_change (C := Try.checked) own started (by kernel_rfl) Try.func4
    (ChangeSpec.witness6 (enc := enc) (C := Try.checked) false ⟨#[], #[.slice none 0 0], []⟩ 8 (by kernel_rfl) (by kernel_rfl) (by kernel_rfl) (by kernel_rfl)) ?_
  intro W base args ds gs before hval0 hW hcnd _
  have hval : ∀ (j : Nat) t v, Try.f4.params[j]? = some t → args[j]? = some v → Value.okWide Try.prog W .any base t v := hval0
  have hW' := hW
  obtain ⟨p, q, hA0, hV, rfl, hfz, hnd⟩ := hW
  have hA : DataW.TrodAll enc Try.prog W 0 (fun _ => true) true Try.f4.params.toList args.toList ds p := hA0
  rw [Try.params4] at hA hval
  obtain ⟨v0, vs0, d0, ds0, p0, q0, hargs, rfl, rfl, h0, r0⟩ := trodAll_cons hA
  obtain ⟨rfl, rfl, rfl⟩ := trodAll_nil r0
  obtain rfl : args = #[v0] := by cases args; simp_all
  obtain ⟨rfl, rfl⟩ := trodVars_none hV
  obtain ⟨a0, len0, cap0, rfl⟩ := okWide_slice Try.underlying22 (hval 0 22 v0 rfl rfl)
  have k0 := h0
  have lt0 : ∀ x ∈ p0, x.block < W.heap.size := by obtain ⟨m, hm⟩ := k0; exact DataW.trod_lt m _ _ _ hm
  obtain ⟨z0, w0⟩ : ∃ zs, IsRow .u8 W a0 len0 cap0 zs := by
    obtain ⟨fuel, hf⟩ := h0
    rcases open_ints Try.underlying22 Try.underlying5 (by kernel_rfl) hf with ⟨hcs, _⟩ | ⟨x, l, c, zs, hcs, _, hl, hm, hz, _, hcell, hwz⟩
    · simp [Value.cells] at hcs
      obtain ⟨rfl, rfl, rfl⟩ := hcs
      exact ⟨[], .inl ⟨rfl, rfl, rfl, rfl⟩⟩
    · simp [Value.cells] at hcs
      obtain ⟨rfl, rfl, rfl⟩ := hcs
      exact ⟨zs, .inr ⟨_, rfl, hl, hm, by simpa using hz, hcell, hwz⟩⟩
  clear hA0 hval0
  refine (walk a0 len0 cap0 z0 W w0).mono fun e W' ⟨he, bel⟩ => ?_
  subst he
  exact ⟨_, rfl, _, _, _, [], _, [], hW', trodAll_mk1 (shut_bool Try.underlying4 _), (trodAll_cons_mk (Below.trod laidOut (by kernel_rfl) (of_decide_eq_true (by kernel_rfl)) k0 bel lt0) trodAll_mk0), rfl, bel.frame _, fun h => by cases h⟩

theorem over : Rows.fnRootsRow.holds Try.pinned (OpenSpec.ofChange Rows.fnRootsSpec) :=
  OpenClaim.holds_of_wide 4 Try.f4 rfl rfl rfl rfl rfl rfl rfl ⟨rfl, rfl, rfl, rfl, rfl⟩ rfl rfl rfl rfl rfl (by kernel_rfl) Try.func4 (by kernel_rfl)
    (of_decide_eq_true (by kernel_rfl)) (by unfold Func.isWrapper; first | (rw [if_pos (by decide +kernel)]; kernel_rfl) | (rw [if_neg (by decide +kernel)]; exact ⟨rfl, rfl⟩))
    (fun os started H enc _ => lifted os started H enc)
end Go.Proofs.Ytejlbllbiijnhaa.fnRoots
namespace Go.Proofs.Ytejlbllbiijnhaa
theorem fnRoots_holds : Rows.FnRootsSaid := fnRoots.over
#print axioms fnRoots_holds
end Go.Proofs.Ytejlbllbiijnhaa
