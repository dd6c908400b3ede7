/-
  FnFermat answers true at every slice of bytes and leaves it as it was: each Element but nought to the power of all others is one, inverses are inverses, products go over sums. No condition.
-/
import Derived.Test.YtejlbllbiijnhaaRows
import Derived.WalkKit
import Derived.ProofKit
import Derived.OpenShut
import Derived.ShutString
import Derived.ChangeOld
import Derived.Below
import Derived.Test.YtejlbllbiijnhaaFieldTot
import Derived.Test.YtejlbllbiijnhaaDraw
namespace Go.Proofs.Ytejlbllbiijnhaa.fnFermat
open Go.ChangeShapes Go.WideShapes Go.ChangeAt Go.RowKit
open Go.ChangeMaps (open_string shut_string)
set_option linter.unusedVariables false

theorem own : ownKnob Try.prog.godebug = none := by kernel_rfl
theorem laidOut : laidOutB Try.prog = true := by kernel_rfl

/-- A row of integers that came in: nil, or cells at an address. -/
def IsRow (k : IntKind) (w : World) (a : Option Addr) (len cap : Nat) (zs : List Int) : Prop :=
  (a = none ∧ len = 0 ∧ cap = 0 ∧ zs = []) ∨
  ∃ x, a = some x ∧ len ≤ cap ∧ cap ≤ maxLen ∧ zs.length = cap ∧ (∀ i, i < zs.length → w.cell? (x.add i) = some (.int k (zs.getD i 0))) ∧ ∀ n ∈ zs, (Lit.int k n).wf = true

theorem code_of {w : World} {a : Option Addr} {len cap : Nat} {zs : List Int} (h : IsRow .u8 w a len cap zs) : Dr.Code w.heap.size w a len := by
  refine ⟨fun i hi => ?_⟩
  rcases h with ⟨rfl, rfl, rfl, rfl⟩ | ⟨x, rfl, hl, hm, hz, hcell, hwz⟩
  · omega
  · have hc := hcell i (by omega)
    obtain ⟨b, off, spot⟩ := x
    have h00 := hcell 0 (by omega)
    have hspot : spot = none := by simpa [Addr.add] using World.cell?_spot h00
    subst hspot
    have hc0 : w.cell? ⟨b, off + i, none⟩ = some (.int .u8 (zs.getD i 0)) := by
      by_cases e : i = 0
      · subst e; simpa [Addr.add] using hc
      · simpa [Addr.add, e] using hc
    have hw := hwz (zs.getD i 0) (by rw [List.getD_eq_getElem?_getD, List.getElem?_eq_getElem (by omega)]; simp)
    have hb : b < w.heap.size := by
      refine Decidable.byContradiction fun hn => ?_
      have hx : w.heap[b]? = none := by simp; omega
      simp [World.cell?, hx] at hc0
    have hbd := bounds_u8 hw
    exact ⟨b, off, _, rfl, hb, hc0, hbd.1, hbd.2⟩
set_option maxRecDepth 100000 in
set_option maxHeartbeats 4000000 in

theorem walk (a0 : Option Addr) (len0 cap0 : Nat) (z0 : List Int) (w : World) (w0 : IsRow .u8 w a0 len0 cap0 z0) :
    Calls Try.prog 3 #[.slice a0 len0 cap0] w fun e w' => e = .returned (.bool true) ∧ Below w.heap.size w w' := by
  have hcode := code_of w0
  have HC : Hid (Dr.Code w.heap.size w a0 len0) := hcode
  clear hcode w0
  by_cases hb : 4096 < len0
  · have hb' : (4096 : Int) < (len0 : Int) := by omega
    go_enter Try.func3, Try.ntmps3
    go_wp2
    go_ret
    exact ⟨rfl, Below.refl _ _⟩
  · have hb' : ¬ (4096 : Int) < (len0 : Int) := by omega
    go_enter Try.func3, Try.ntmps3
    go_wp2_with (first | (go_at_call 5; go_in) | fail)
    refine (Dr.DrawProduct_any _ _ _ _ HC.out (by omega)).mono ?_
    rintro e w1 ⟨a, b, a1, a2, b1, b2, rfl, hbl⟩
    have HC1 : Hid (Dr.Code w1.heap.size w1 a0 len0) := Dr.Code.kept HC.out hbl
    have HB : Hid (Below w.heap.size w w1) := hbl
    clear hbl
    go_wp2_with (first | (go_at_call 7; refine (Fd.impl_Product_all _ _ _).mono ?_; rintro e w' ⟨rfl, rfl⟩) | (go_at_call 8; refine (Fd.impl_Sum_all _ _ _).mono ?_; rintro e w' ⟨rfl, rfl⟩) | (go_at_call 9; refine (Fd.impl_Less_all _ _ _).mono ?_; rintro e w' ⟨rfl, rfl⟩) | fail)
    refine (Dr.DrawPower_any _ _ _ _ HC1.out (by omega)).mono ?_
    rintro e w2 ⟨x, n, x1, x2, n1, n2, rfl, hbl⟩
    have HC2 : Hid (Dr.Code w2.heap.size w2 a0 len0) := Dr.Code.kept HC1.out hbl
    have HB2 : Hid (Below w.heap.size w w2) := HB.out.trans (hbl.mono HB.out.size)
    clear hbl HB HC1 HC
    have hcase : (0 ≤ Pl.powI x n ∧ n < 1099511627776 ∧ (Pl.powI x (n + 1) != Pl.prodI (Pl.powI x n) x) = false) ∨ (0 ≤ Pl.powI x n ∧ ¬ n < 1099511627776) ∨ ¬ 0 ≤ Pl.powI x n := by
      by_cases hw : 0 ≤ Pl.powI x n
      · by_cases hn : n < 1099511627776
        · exact .inl ⟨hw, hn, by rw [Pl.pow_next hw hn]; simp⟩
        · exact .inr (.inl ⟨hw, hn⟩)
      · exact .inr (.inr hw)
    by_cases hp : Pl.prodI a b < 0
    · obtain ⟨hs, hd⟩ := Pl.prodI_neg hp
      rcases hcase with ⟨hw, hn, e1⟩ | ⟨hw, hn⟩ | hw
      all_goals
        go_wp2_with (first | (go_at_call 7; refine (Fd.impl_Product_all _ _ _).mono ?_; rintro e w' ⟨rfl, rfl⟩) | (go_at_call 8; refine (Fd.impl_Sum_all _ _ _).mono ?_; rintro e w' ⟨rfl, rfl⟩) | (go_at_call 9; refine (Fd.impl_Less_all _ _ _).mono ?_; rintro e w' ⟨rfl, rfl⟩) | (go_at_call 11; refine (Fd.impl_Power_all _ _ _).mono ?_; rintro e w' ⟨rfl, rfl⟩) | (go_at_call 16; refine (Fd.impl_Inverse_all _ _).mono ?_; rintro e w' ⟨rfl, rfl⟩) | (go_at_call 18; refine (Fd.impl_ElementOk_all _ _).mono ?_; rintro e w' ⟨rfl, rfl⟩) | (go_at_call 12; refine (Fd.spec_Product_all _ _ _).mono ?_; rintro e w' ⟨rfl, rfl⟩) | (go_at_call 13; refine (Fd.spec_Sum_all _ _ _).mono ?_; rintro e w' ⟨rfl, rfl⟩) | (go_at_call 14; refine (Fd.spec_Less_all _ _ _).mono ?_; rintro e w' ⟨rfl, rfl⟩) | (go_at_call 15; refine (Fd.spec_Power_all _ _ _).mono ?_; rintro e w' ⟨rfl, rfl⟩) | (go_at_call 17; refine (Fd.spec_Inverse_all _ _).mono ?_; rintro e w' ⟨rfl, rfl⟩) | (go_at_call 19; refine (Fd.spec_ElementOk_all _ _).mono ?_; rintro e w' ⟨rfl, rfl⟩) | fail)
        go_ret
        exact ⟨rfl, HB2.out⟩
    · obtain ⟨ea, eb⟩ := Pl.prodI_el hp
      have EA : Hid (Pl.el a = true) := ea
      have EB : Hid (Pl.el b = true) := eb
      clear ea eb
      have e2 : (Pl.sumI (Pl.lessI a b) b != a) = false := by rw [Pl.back EA.out EB.out]; simp
      have e3 : (Pl.prodI b a != Pl.prodI a b) = false := by rw [Pl.prodI_comm]; simp
      rcases hcase with ⟨hw, hn, e1⟩ | ⟨hw, hn⟩ | hw
      all_goals
        go_wp2_with (first | (go_at_call 7; refine (Fd.impl_Product_all _ _ _).mono ?_; rintro e w' ⟨rfl, rfl⟩) | (go_at_call 8; refine (Fd.impl_Sum_all _ _ _).mono ?_; rintro e w' ⟨rfl, rfl⟩) | (go_at_call 9; refine (Fd.impl_Less_all _ _ _).mono ?_; rintro e w' ⟨rfl, rfl⟩) | (go_at_call 11; refine (Fd.impl_Power_all _ _ _).mono ?_; rintro e w' ⟨rfl, rfl⟩) | (go_at_call 16; refine (Fd.impl_Inverse_all _ _).mono ?_; rintro e w' ⟨rfl, rfl⟩) | (go_at_call 18; refine (Fd.impl_ElementOk_all _ _).mono ?_; rintro e w' ⟨rfl, rfl⟩) | (go_at_call 12; refine (Fd.spec_Product_all _ _ _).mono ?_; rintro e w' ⟨rfl, rfl⟩) | (go_at_call 13; refine (Fd.spec_Sum_all _ _ _).mono ?_; rintro e w' ⟨rfl, rfl⟩) | (go_at_call 14; refine (Fd.spec_Less_all _ _ _).mono ?_; rintro e w' ⟨rfl, rfl⟩) | (go_at_call 15; refine (Fd.spec_Power_all _ _ _).mono ?_; rintro e w' ⟨rfl, rfl⟩) | (go_at_call 17; refine (Fd.spec_Inverse_all _ _).mono ?_; rintro e w' ⟨rfl, rfl⟩) | (go_at_call 19; refine (Fd.spec_ElementOk_all _ _).mono ?_; rintro e w' ⟨rfl, rfl⟩) | fail)
        refine (Dr.pick_any _ _ _ _ _ _ _ HC2.out (by omega) (by decide) (by decide) (by decide)).mono ?_
        rintro e w3 ⟨c, c0, c1, rfl, rfl⟩
        have EC : Hid (Pl.el c = true) := (Pl.el_iff c).2 ⟨c0, c1⟩
        have e4 : (Pl.prodI a (Pl.sumI b c) != Pl.sumI (Pl.prodI a b) (Pl.prodI a c)) = false := by rw [Pl.dist EA.out EB.out EC.out]; simp
        by_cases hz : a = 0
        · subst hz
          have e5 : (Pl.invI 0 == 0) = true := by rw [Pl.inv_zero]; simp
          go_wp2_with (first | (go_at_call 7; refine (Fd.impl_Product_all _ _ _).mono ?_; rintro e w' ⟨rfl, rfl⟩) | (go_at_call 8; refine (Fd.impl_Sum_all _ _ _).mono ?_; rintro e w' ⟨rfl, rfl⟩) | (go_at_call 9; refine (Fd.impl_Less_all _ _ _).mono ?_; rintro e w' ⟨rfl, rfl⟩) | (go_at_call 11; refine (Fd.impl_Power_all _ _ _).mono ?_; rintro e w' ⟨rfl, rfl⟩) | (go_at_call 16; refine (Fd.impl_Inverse_all _ _).mono ?_; rintro e w' ⟨rfl, rfl⟩) | (go_at_call 18; refine (Fd.impl_ElementOk_all _ _).mono ?_; rintro e w' ⟨rfl, rfl⟩) | (go_at_call 12; refine (Fd.spec_Product_all _ _ _).mono ?_; rintro e w' ⟨rfl, rfl⟩) | (go_at_call 13; refine (Fd.spec_Sum_all _ _ _).mono ?_; rintro e w' ⟨rfl, rfl⟩) | (go_at_call 14; refine (Fd.spec_Less_all _ _ _).mono ?_; rintro e w' ⟨rfl, rfl⟩) | (go_at_call 15; refine (Fd.spec_Power_all _ _ _).mono ?_; rintro e w' ⟨rfl, rfl⟩) | (go_at_call 17; refine (Fd.spec_Inverse_all _ _).mono ?_; rintro e w' ⟨rfl, rfl⟩) | (go_at_call 19; refine (Fd.spec_ElementOk_all _ _).mono ?_; rintro e w' ⟨rfl, rfl⟩) | fail)
          go_ret
          exact ⟨rfl, HB2.out⟩
        · have e5 : (a == 0) = false := by simp [hz]
          have e5' : (a != 0) = true := by simp [hz]
          have e6 : (Pl.prodI a (Pl.invI a) == 1) = true := by rw [(Pl.fermat EA.out hz).1]; simp
          have e7 : (Pl.powI a 10006 == 1) = true := by rw [(Pl.fermat EA.out hz).2]; simp
          go_wp2_with (first | (go_at_call 7; refine (Fd.impl_Product_all _ _ _).mono ?_; rintro e w' ⟨rfl, rfl⟩) | (go_at_call 8; refine (Fd.impl_Sum_all _ _ _).mono ?_; rintro e w' ⟨rfl, rfl⟩) | (go_at_call 9; refine (Fd.impl_Less_all _ _ _).mono ?_; rintro e w' ⟨rfl, rfl⟩) | (go_at_call 11; refine (Fd.impl_Power_all _ _ _).mono ?_; rintro e w' ⟨rfl, rfl⟩) | (go_at_call 16; refine (Fd.impl_Inverse_all _ _).mono ?_; rintro e w' ⟨rfl, rfl⟩) | (go_at_call 18; refine (Fd.impl_ElementOk_all _ _).mono ?_; rintro e w' ⟨rfl, rfl⟩) | (go_at_call 12; refine (Fd.spec_Product_all _ _ _).mono ?_; rintro e w' ⟨rfl, rfl⟩) | (go_at_call 13; refine (Fd.spec_Sum_all _ _ _).mono ?_; rintro e w' ⟨rfl, rfl⟩) | (go_at_call 14; refine (Fd.spec_Less_all _ _ _).mono ?_; rintro e w' ⟨rfl, rfl⟩) | (go_at_call 15; refine (Fd.spec_Power_all _ _ _).mono ?_; rintro e w' ⟨rfl, rfl⟩) | (go_at_call 17; refine (Fd.spec_Inverse_all _ _).mono ?_; rintro e w' ⟨rfl, rfl⟩) | (go_at_call 19; refine (Fd.spec_ElementOk_all _ _).mono ?_; rintro e w' ⟨rfl, rfl⟩) | fail)
          go_ret
          exact ⟨rfl, HB2.out⟩

set_option maxRecDepth 100000 in
theorem lifted (os : Os) (started : os.Started) (H : Type) (enc : TypeId × Value → H) :
    ReturnsInHanded {} Try.checked os 3 .any (Rows.fnFermatSpec.pre6 enc Try.prog Try.f3 Rows.fnFermatRow.domain false) (Rows.fnFermatSpec.post enc Try.prog Try.f3 false true false false) := by
  refine returnsInHanded_of_change (C := Try.checked) own started (by kernel_rfl) Try.func3
    (ChangeSpec.witness6 (enc := enc) (C := Try.checked) false ⟨#[], #[.slice none 0 0], []⟩ 8 (by kernel_rfl) (by kernel_rfl) (by kernel_rfl) (by kernel_rfl)) ?_
  intro W base args ds gs before hval0 hW hcnd _
  have hval : ∀ (j : Nat) t v, Try.f3.params[j]? = some t → args[j]? = some v → Value.okWide Try.prog W .any base t v := hval0
  have hW' := hW
  obtain ⟨p, q, hA0, hV, rfl, hfz, hnd⟩ := hW
  have hA : DataW.TrodAll enc Try.prog W 0 (fun _ => true) true Try.f3.params.toList args.toList ds p := hA0
  rw [Try.params3] at hA hval
  obtain ⟨v0, vs0, d0, ds0, p0, q0, hargs, rfl, rfl, h0, r0⟩ := trodAll_cons hA
  obtain ⟨rfl, rfl, rfl⟩ := trodAll_nil r0
  obtain rfl : args = #[v0] := by cases args; simp_all
  obtain ⟨rfl, rfl⟩ := trodVars_none hV
  obtain ⟨a0, len0, cap0, rfl⟩ := okWide_slice Try.underlying22 (hval 0 22 v0 rfl rfl)
  have k0 := h0
  have lt0 : ∀ x ∈ p0, x.block < W.heap.size := by obtain ⟨m, hm⟩ := k0; exact DataW.trod_lt m _ _ _ hm
  obtain ⟨z0, w0⟩ : ∃ zs, IsRow .u8 W a0 len0 cap0 zs := by
    obtain ⟨fuel, hf⟩ := h0
    rcases open_ints Try.underlying22 Try.underlying5 (by kernel_rfl) hf with ⟨hcs, _⟩ | ⟨x, l, c, zs, hcs, _, hl, hm, hz, _, hcell, hwz⟩
    · simp [Value.cells] at hcs
      obtain ⟨rfl, rfl, rfl⟩ := hcs
      exact ⟨[], .inl ⟨rfl, rfl, rfl, rfl⟩⟩
    · simp [Value.cells] at hcs
      obtain ⟨rfl, rfl, rfl⟩ := hcs
      exact ⟨zs, .inr ⟨_, rfl, hl, hm, by simpa using hz, hcell, hwz⟩⟩
  clear hA0 hval0
  refine (walk a0 len0 cap0 z0 W w0).mono fun e W' ⟨he, bel⟩ => ?_
  subst he
  exact ⟨_, rfl, _, _, _, [], _, [], hW', trodAll_mk1 (shut_bool Try.underlying4 _), (trodAll_cons_mk (Below.trod laidOut (by kernel_rfl) (of_decide_eq_true (by kernel_rfl)) k0 bel lt0) trodAll_mk0), rfl, bel.frame _, fun h => by cases h⟩

theorem over : Rows.fnFermatRow.holds Try.pinned (OpenSpec.ofChange Rows.fnFermatSpec) :=
  OpenClaim.holds_of_wide 3 Try.f3 rfl rfl rfl rfl rfl rfl rfl ⟨rfl, rfl, rfl, rfl, rfl⟩ rfl rfl rfl rfl rfl (by kernel_rfl) Try.func3 (by kernel_rfl)
    (of_decide_eq_true (by kernel_rfl)) (by unfold Func.isWrapper; first | (rw [if_pos (by decide +kernel)]; kernel_rfl) | (rw [if_neg (by decide +kernel)]; exact ⟨rfl, rfl⟩))
    (fun os started H enc _ => lifted os started H enc)
end Go.Proofs.Ytejlbllbiijnhaa.fnFermat
namespace Go.Proofs.Ytejlbllbiijnhaa
theorem fnFermat_holds : Rows.FnFermatSaid := fnFermat.over
#print axioms fnFermat_holds
end Go.Proofs.Ytejlbllbiijnhaa
