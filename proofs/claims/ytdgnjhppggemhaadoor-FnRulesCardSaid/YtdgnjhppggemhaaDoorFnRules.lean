/-
  FnRules answers true at every slice of bytes and leaves it as it was: ShowRules, ReadRules and RulesOk of the program answer as the specification's at what is drawn; Rules are read from what they are shown as, and a text that is read is the one of its Rules. No condition beyond the card's own list.
-/
import Derived.Test.YtdgnjhppggemhaaDoorRows
import Derived.WalkKit
import Derived.ProofKit
import Derived.OpenShut
import Derived.ShutString
import Derived.ChangeOld
import Derived.Below
import Derived.Lib.SmallJoins
import Derived.Lay
import Derived.Test.YtdgnjhppggemhaaDoorTie
import Derived.Test.YtdgnjhppggemhaaDoorCards
import Derived.LaidMore
import Derived.Stop.Joined
import Derived.SevenTiedAt
import Derived.Test.YtdgnjhppggemhaaDoorRuX
import Derived.Test.YtdgnjhppggemhaaDoorRuY
namespace Go.Proofs.YtdgnjhppggemhaaDoor.fnRules
open Go.ChangeShapes Go.WideShapes Go.ChangeAt Go.RowKit Go.Joins
set_option linter.unusedVariables false

theorem own : ownKnob Tryd.prog.godebug = none := by kernel_rfl
theorem laidOut : laidOutB Tryd.prog = true := by kernel_rfl
/-- A row of integers that came in: nil, or cells at an address. -/
def IsRow (k : IntKind) (w : World) (a : Option Addr) (len cap : Nat) (zs : List Int) : Prop :=
  (a = none ∧ len = 0 ∧ cap = 0 ∧ zs = []) ∨
  ∃ x, a = some x ∧ len ≤ cap ∧ cap ≤ maxLen ∧ zs.length = cap ∧ (∀ i, i < zs.length → w.cell? (x.add i) = some (.int k (zs.getD i 0))) ∧ ∀ n ∈ zs, (Lit.int k n).wf = true
open Ru
theorem code_of {w : World} {a : Option Addr} {len cap : Nat} {zs : List Int} (h : IsRow .u8 w a len cap zs) : Dr.Code w.heap.size w a len := by
  refine ⟨fun i hi => ?_⟩
  rcases h with ⟨rfl, rfl, rfl, rfl⟩ | ⟨x, rfl, hl, hm, hz, hcell, hwz⟩
  · omega
  · have hc := hcell i (by omega)
    obtain ⟨b, off, spot⟩ := x
    have h00 := hcell 0 (by omega)
    have hspot : spot = none := by simpa [Addr.add] using World.cell?_spot h00
    subst hspot
    have hc0 : w.cell? ⟨b, off + i, none⟩ = some (.int .u8 (zs.getD i 0)) := by
      by_cases e : i = 0
      · subst e; simpa [Addr.add] using hc
      · simpa [Addr.add, e] using hc
    have hw := hwz (zs.getD i 0) (by rw [List.getD_eq_getElem?_getD, List.getElem?_eq_getElem (by omega)]; simp)
    have hb : b < w.heap.size := by
      refine Decidable.byContradiction fun hn => ?_
      have hx : w.heap[b]? = none := by simp; omega
      simp [World.cell?, hx] at hc0
    have hbd := bounds_u8 hw
    exact ⟨b, off, _, rfl, hb, hc0, hbd.1, hbd.2⟩
set_option maxRecDepth 100000 in
set_option maxHeartbeats 8000000 in

theorem walk (a0 : Option Addr) (len0 cap0 : Nat) (z0 : List Int) (w : World) (w0 : IsRow .u8 w a0 len0 cap0 z0) :
    Calls Tryd.prog 3 #[.slice a0 len0 cap0] w fun e w' => e = .returned (.bool true) ∧ Below w.heap.size w w' := by
  have HC := hidIt (code_of w0)
  clear w0
  have cbig := big_any a0 len0 cap0
  by_cases hbig : 4096 < len0
  · rw [decide_eq_true (show (4096 : Int) < (len0 : Int) by omega)] at cbig
    have CBig := hidIt cbig
    clear cbig
    go_enter Tryd.func3, Tryd.ntmps3
    go_wp2_with (fail)
    refine (CBig.out _).mono ?_
    rintro e w1 ⟨rfl, hz⟩
    rw [hz]
    clear hz
    go_wp2_with (fail)
    go_ret
    exact ⟨rfl, Below.refl _ _⟩
  have hl : len0 ≤ 4096 := by omega
  rw [decide_eq_false (show ¬ (4096 : Int) < (len0 : Int) by omega)] at cbig
  have CBig := hidIt cbig
  clear cbig hbig
  go_enter Tryd.func3, Tryd.ntmps3
  go_wp2_with (fail)
  refine (CBig.out _).mono ?_
  rintro e w1 ⟨rfl, hz⟩
  rw [hz]
  clear hz CBig w1
  go_wp2_with (fail)
  refine (DrawShowRules_any a0 len0 cap0 w HC.out hl).mono ?_
  rintro e w1 ⟨v, L, rfl, tL, oL, k1⟩
  obtain ⟨aL, cL, ev, hL1, hL2, rL, _⟩ := oL.form
  subst ev
  have hLn := tL.len
  have C1 := hidIt (fun W (r : Rd W aL L) => impl_ShowRules aL cL L W r (by omega) tL.short)
  have C2 := hidIt (fun W (r : Rd W aL L) => spec_ShowRules aL cL L W r (by omega) tL.short)
  have C3 := hidIt (fun W (r : Rd W aL L) => impl_RulesOk aL cL L W r (by omega) tL.short)
  have C4 := hidIt (fun W (r : Rd W aL L) => spec_RulesOk aL cL L W r (by omega) tL.short)
  have R1 : Hid (okR L = true → readR (showR L) = some L) := hidIt (fun h => by
    have e : showR L = shw L L.length := by unfold showR; rw [h, if_pos rfl]
    rw [e]
    exact read_yes h rfl)
  have hsz := show_size L
  have C5 := hidIt (fun W => impl_ReadRules (showR L) W (by omega))
  have CL := hidIt (fun b cb W (rb : Rd W b L) (r : Rd W aL L) => likeRules_same b aL cb cL L W rb r (by omega))
  generalize showR L = tl at C1 C2 C5 R1 hsz
  generalize okR L = ok at C3 C4 R1
  generalize hn : L.length = n at *
  have HN := hidIt hn
  clear hn tL oL
  have RL := hidIt rL
  have KB := hidIt k1
  clear rL k1
  go_wp2_with (fail)
  refine (C1.out _ RL.out).mono ?_
  rintro e w2 ⟨rfl, kk⟩
  replace RL := hidIt (RL.out.kept kk)
  replace KB := hidIt (KB.out.trans (kk.mono KB.out.size))
  clear kk C1
  go_wp2_with (fail)
  refine (DrawReadRules_any a0 len0 cap0 w2 (code_at HC.out KB.out) hl).mono ?_
  rintro e w3 ⟨tx, rfl, htx, kk⟩
  replace RL := hidIt (RL.out.kept kk)
  replace KB := hidIt (KB.out.trans (kk.mono KB.out.size))
  clear kk HC
  have C6 := hidIt (fun W => impl_ReadRules tx W (by omega))
  have C7 := hidIt (fun W => spec_ReadRules tx W (by omega))
  have R4 : Hid ((readR tx).isSome = false → ((readR tx).getD []).length = 0) := hidIt (fun h => by
    cases e : readR tx with
    | none => rfl
    | some M => rw [e] at h; cases h)
  have R5 : Hid ((readR tx).isSome = true → okR ((readR tx).getD []) = true ∧ showR ((readR tx).getD []) = tx) := hidIt (fun h => by
    cases e : readR tx with
    | none => rw [e] at h; cases h
    | some M =>
      obtain ⟨h1, h2⟩ := (read_iff tx M).1 e
      refine ⟨h1, ?_⟩
      show showR M = tx
      unfold showR
      rw [h1, if_pos rfl]
      exact h2)
  have R6 : Hid (((readR tx).getD []).length ≤ 12 ∧ ∀ i, i < ((readR tx).getD []).length → (rat ((readR tx).getD []) i).1.size ≤ 9223372036854775807) := hidIt (by
    cases e : readR tx with
    | none => exact ⟨by simp, fun i hi => by simp at hi⟩
    | some M =>
      obtain ⟨h1, h2⟩ := (read_iff tx M).1 e
      exact ⟨okR_len h1, fun i hi => Nat.le_trans (okP_len (okR_at h1 hi)) (by omega)⟩)
  generalize (readR tx).isSome = is at C6 C7 R4 R5
  generalize (readR tx).getD [] = X at C6 C7 R4 R5 R6
  go_wp2_with (fail)
  refine (C6.out _).mono ?_
  rintro e w4 ⟨vX, rfl, oX, kk⟩
  replace RL := hidIt (RL.out.kept kk)
  replace KB := hidIt (KB.out.trans (kk.mono KB.out.size))
  obtain ⟨aX, cX, ev, _, _, rX, _⟩ := oX.form
  subst ev
  have hXn := R6.out.1
  have C8 := hidIt (fun W (r : Rd W aX X) => impl_RulesOk aX cX X W r (by omega) R6.out.2)
  have C9 := hidIt (fun W (r : Rd W aX X) => impl_ShowRules aX cX X W r (by omega) R6.out.2)
  have CX := hidIt (fun b cb W (r : Rd W aX X) (rb : Rd W b X) => likeRules_same aX b cX cb X W r rb (by omega))
  have ST := hidIt (St.mk (w0 := w) KB.out RL.out rX)
  clear kk C6 RL KB rX oX
  generalize okR X = okx at C8 R5
  generalize showR X = tx' at C9 R5
  generalize hnx : X.length = nX at *
  have HNX := hidIt hnx
  clear hnx
  go_wp2_with (fail)
  refine (C7.out _).mono ?_
  rintro e w5 ⟨vY, rfl, oY, kk⟩
  replace ST := hidIt (ST.out.kept kk)
  obtain ⟨aY, cY, ev, _, _, rY⟩ := oY.formN HNX.out
  subst ev
  have RY := hidIt rY
  clear kk C7 oY rY
  have e1 : (is != is) = false := by cases is <;> rfl
  have e2 : (ok != ok) = false := by cases ok <;> rfl
  have e3 : (tl.toList != tl.toList) = false := by simp
  go_wp2_with (fail)
  refine (CX.out aY cY _ ST.out.m RY.out).mono ?_
  rintro e w6 ⟨rfl, kk⟩
  replace ST := hidIt (ST.out.kept kk)
  clear kk CX RY
  go_wp2_with (fail)
  refine (C2.out _ ST.out.l).mono ?_
  rintro e w7 ⟨rfl, kk⟩
  replace ST := hidIt (ST.out.kept kk)
  clear kk
  go_wp2_with (fail)
  refine (C3.out _ ST.out.l).mono ?_
  rintro e w8 ⟨rfl, kk⟩
  replace ST := hidIt (ST.out.kept kk)
  clear kk
  go_wp2_with (fail)
  refine (C4.out _ ST.out.l).mono ?_
  rintro e w9 ⟨rfl, kk⟩
  replace ST := hidIt (ST.out.kept kk)
  clear kk
  go_wp2_with (fail)
  refine (C4.out _ ST.out.l).mono ?_
  rintro e wa ⟨rfl, kk⟩
  replace ST := hidIt (ST.out.kept kk)
  clear kk
  cases ok with
  | false =>
    cases is with
    | false =>
      have ex := R4.out rfl
      subst ex
      go_wp2_with (fail)
      go_ret
      exact ⟨rfl, ST.out.k⟩
    | true =>
      obtain ⟨ex, et⟩ := R5.out rfl
      have hnx : Hid (X.length = nX) := HNX
      subst ex et
      have z0 : (tx'.toList == tx'.toList) = true := by simp
      go_wp2_with (fail)
      refine (C9.out _ ST.out.m).mono ?_
      rintro e wf ⟨rfl, kk⟩
      replace ST := hidIt (ST.out.kept kk)
      clear kk
      go_wp2_with (fail)
      refine (C8.out _ ST.out.m).mono ?_
      rintro e wg ⟨rfl, kk⟩
      replace ST := hidIt (ST.out.kept kk)
      clear kk
      go_wp2_with (fail)
      go_ret
      exact ⟨rfl, ST.out.k⟩
  | true =>
    have er := R1.out rfl
    rw [er] at C5
    go_wp2_with (fail)
    refine (C5.out _).mono ?_
    rintro e wb ⟨vZ, rfl, oZ, kk⟩
    replace ST := hidIt (ST.out.kept kk)
    obtain ⟨aZ, cZ, ev, _, _, rZ⟩ := oZ.formN HN.out
    subst ev
    have RZ := hidIt rZ
    clear kk C5 oZ rZ er
    go_wp2_with (fail)
    refine (CL.out aZ cZ _ RZ.out ST.out.l).mono ?_
    rintro e wc ⟨rfl, kk⟩
    replace ST := hidIt (ST.out.kept kk)
    clear kk CL RZ
    cases is with
    | false =>
      have ex := R4.out rfl
      subst ex
      go_wp2_with (fail)
      go_ret
      exact ⟨rfl, ST.out.k⟩
    | true =>
      obtain ⟨ex, et⟩ := R5.out rfl
      have hnx : Hid (X.length = nX) := HNX
      subst ex et
      have z0 : (tx'.toList == tx'.toList) = true := by simp
      go_wp2_with (fail)
      refine (C9.out _ ST.out.m).mono ?_
      rintro e wf ⟨rfl, kk⟩
      replace ST := hidIt (ST.out.kept kk)
      clear kk
      go_wp2_with (fail)
      refine (C8.out _ ST.out.m).mono ?_
      rintro e wg ⟨rfl, kk⟩
      replace ST := hidIt (ST.out.kept kk)
      clear kk
      go_wp2_with (fail)
      go_ret
      exact ⟨rfl, ST.out.k⟩

theorem door_met (os : Os) (args : Array Value) : laidMetH Tryd.prog Rows.fnRulesRow.laid ((World.laidAll Tryd.prog os Rows.fnRulesRow.laid).forCall (fun _ _ => 0) ⟨#[], args, []⟩).memory := by
  rw [MakeChecks.laidMetH_plain _ _ _ (by kernel_rfl)]
  exact laidMet_laidAll _ (by kernel_rfl) (by kernel_rfl)
set_option maxRecDepth 100000 in
theorem lifted (os : Os) (started : os.Started) (H : Type) (enc : TypeId × Value → H) :
    ReturnsInHanded {} Tryd.checked os 3 .any (fun w args => (Rows.fnRulesSpec.pre enc Tryd.prog Tryd.f3 [] false w args ∧ laidMetH Tryd.prog Rows.fnRulesRow.laid w) ∧ sizedMet enc Tryd.prog Tryd.f3 (OpenSpec.ofChange Rows.fnRulesSpec) false w args) (Rows.fnRulesSpec.post enc Tryd.prog Tryd.f3 false true false false) := by
  refine returnsInHanded_of_change_and (C := Tryd.checked) (X := fun w _ => laidMetH Tryd.prog Rows.fnRulesRow.laid w) (fun _ _ _ hh h => h.of_heap hh) own started (by kernel_rfl) Tryd.func3
    (ChangeSpec.witness_shaped (enc := enc) (C := Tryd.checked) (os := os) (X := fun w _ => laidMetH Tryd.prog Rows.fnRulesRow.laid w) false (World.laidAll Tryd.prog os Rows.fnRulesRow.laid) #[.slice none 0 0] 8 (World.laidAll_os _ _ _)
      (World.shaped_of_ZipB (by kernel_rfl) (by kernel_rfl)) (by kernel_rfl) (by kernel_rfl) (by kernel_rfl) (door_met os _)) ?_
  intro W base args ds gs before hval0 hW _ _ hL _
  have hval : ∀ (j : Nat) t v, Tryd.f3.params[j]? = some t → args[j]? = some v → Value.okWide Tryd.prog W .any base t v := hval0
  have hW' := hW
  obtain ⟨p, q, hA0, hV, rfl, hfz, hnd⟩ := hW
  have hA : DataW.TrodAll enc Tryd.prog W 0 (fun _ => true) true Tryd.f3.params.toList args.toList ds p := hA0
  rw [Tryd.params3] at hA hval
  obtain ⟨v0, vs0, d0, ds0, p0, q0, hargs, rfl, rfl, h0, r0⟩ := trodAll_cons hA
  obtain ⟨rfl, rfl, rfl⟩ := trodAll_nil r0
  obtain rfl : args = #[v0] := by cases args; simp_all
  obtain ⟨rfl, rfl⟩ := trodVars_none hV
  have k0 := h0
  have lt0 : ∀ x ∈ p0, x.block < W.heap.size := by obtain ⟨m, hm⟩ := k0; exact DataW.trod_lt m _ _ _ hm
  obtain ⟨a0, len0, cap0, rfl⟩ := okWide_slice Tryd.underlying22 (hval 0 22 v0 rfl rfl)
  obtain ⟨z0, w0⟩ : ∃ zs, IsRow .u8 W a0 len0 cap0 zs := by
    obtain ⟨fuel, hf⟩ := h0
    rcases open_ints Tryd.underlying22 Tryd.underlying5 (by kernel_rfl) hf with ⟨hcs, _⟩ | ⟨x, l, c, zs, hcs, _, hl, hm, hz, _, hcell, hwz⟩
    · simp [Value.cells] at hcs
      obtain ⟨rfl, rfl, rfl⟩ := hcs
      exact ⟨[], .inl ⟨rfl, rfl, rfl, rfl⟩⟩
    · simp [Value.cells] at hcs
      obtain ⟨rfl, rfl, rfl⟩ := hcs
      exact ⟨zs, .inr ⟨_, rfl, hl, hm, by simpa using hz, hcell, hwz⟩⟩
  clear hA0 hval0
  refine (walk a0 len0 cap0 z0 W w0).mono fun e W' ⟨he, bel⟩ => ?_
  subst he
  exact ⟨_, rfl, _, _, _, [], _, [], hW', trodAll_mk1 (shut_bool Tryd.underlying4 _), (trodAll_cons_mk (Below.trod laidOut (by kernel_rfl) (of_decide_eq_true (by kernel_rfl)) k0 bel lt0) trodAll_mk0), rfl, bel.frame _, fun h => by cases h⟩

theorem over : Rows.fnRulesRow.holds Tryd.pinned (OpenSpec.ofChange Rows.fnRulesSpec) :=
  OpenClaim.holds_of_wide 3 Tryd.f3 rfl rfl rfl rfl rfl rfl rfl ⟨rfl, rfl, rfl, rfl, rfl⟩ rfl rfl rfl rfl rfl (by kernel_rfl) Tryd.func3 (by kernel_rfl)
    (of_decide_eq_true (by kernel_rfl)) (by unfold Func.isWrapper; first | (rw [if_pos (by decide +kernel)]; kernel_rfl) | (rw [if_neg (by decide +kernel)]; exact ⟨rfl, rfl⟩))
    (fun os started H enc _ => lifted os started H enc)
theorem card : Rows.FnRulesCardSaid :=
  Claim7.holds_tied_plain_at .later [] [.data, .pinned] true (true, "e53cb119aebe8370a848b113730230f1908cfbf6f422d31e4cf39e6fe9dfa91c") false
    over (fun _ h => by cases h) (by kernel_rfl) (fun _ h => by cases h) fnRules_row_tie rfl ⟨rfl, rfl⟩ (by kernel_rfl) rfl
    (fun f fn hf hfn => by
      obtain rfl : f = 3 := Option.some.inj ((show Tryd.prog.funcNamed "loop.example/g00307/laws.FnRules" = some 3 by kernel_rfl).symm.trans hf) |>.symm
      obtain rfl : fn = Tryd.f3 := (Option.some.inj (Tryd.func3.symm.trans hfn)).symm
      exact ⟨by kernel_rfl, fun j t ht => by
        rw [Tryd.params3] at ht
        have hm : t ∈ [22] := by simpa using Array.mem_of_getElem? ht
        have hall : ([22].all fun u => !Tryd.prog.wantsStandIn u) = true := by kernel_rfl
        exact (show Tryd.prog.wantsStandIn t = false by simpa using List.all_eq_true.1 hall t hm)⟩)
    (by kernel_rfl)
end Go.Proofs.YtdgnjhppggemhaaDoor.fnRules
namespace Go.Proofs.YtdgnjhppggemhaaDoor
theorem fnRules_holds : Rows.FnRulesCardSaid := fnRules.card
#print axioms fnRules_holds
end Go.Proofs.YtdgnjhppggemhaaDoor
