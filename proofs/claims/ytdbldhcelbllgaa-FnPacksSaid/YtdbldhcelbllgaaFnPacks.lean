/-
  FnPacks answers true at every slice of bytes and leaves it as it was: the program's packing answers as the specification's, what is packed is unpacked again in no more bytes than plainly, and what is unpacked is packed so. No condition.
-/
import Derived.Test.YtdbldhcelbllgaaRows
import Derived.WalkKit
import Derived.ProofKit
import Derived.OpenShut
import Derived.ShutString
import Derived.ChangeOld
import Derived.Below
import Derived.Lib.SmallJoins
import Derived.Test.YtdbldhcelbllgaaPackD
import Derived.Test.YtdbldhcelbllgaaPackW
import Derived.Test.YtdbldhcelbllgaaNameG
namespace Go.Proofs.Ytdbldhcelbllgaa.fnPacks
open Go.ChangeShapes Go.WideShapes Go.ChangeAt Go.RowKit Go.Joins
set_option linter.unusedVariables false

theorem own : ownKnob Try.prog.godebug = none := by kernel_rfl
theorem laidOut : laidOutB Try.prog = true := by kernel_rfl
/-- A row of integers that came in: nil, or cells at an address. -/
def IsRow (k : IntKind) (w : World) (a : Option Addr) (len cap : Nat) (zs : List Int) : Prop :=
  (a = none ∧ len = 0 ∧ cap = 0 ∧ zs = []) ∨
  ∃ x, a = some x ∧ len ≤ cap ∧ cap ≤ maxLen ∧ zs.length = cap ∧ (∀ i, i < zs.length → w.cell? (x.add i) = some (.int k (zs.getD i 0))) ∧ ∀ n ∈ zs, (Lit.int k n).wf = true
open Go.Proofs.Ytdbldhcelbllgaa.Nm
theorem code_of {w : World} {a : Option Addr} {len cap : Nat} {zs : List Int} (h : IsRow .u8 w a len cap zs) : Dr.Code w.heap.size w a len := by
  refine ⟨fun i hi => ?_⟩
  rcases h with ⟨rfl, rfl, rfl, rfl⟩ | ⟨x, rfl, hl, hm, hz, hcell, hwz⟩
  · omega
  · have hc := hcell i (by omega)
    obtain ⟨b, off, spot⟩ := x
    have h00 := hcell 0 (by omega)
    have hspot : spot = none := by simpa [Addr.add] using World.cell?_spot h00
    subst hspot
    have hc0 : w.cell? ⟨b, off + i, none⟩ = some (.int .u8 (zs.getD i 0)) := by
      by_cases e : i = 0
      · subst e; simpa [Addr.add] using hc
      · simpa [Addr.add, e] using hc
    have hw := hwz (zs.getD i 0) (by rw [List.getD_eq_getElem?_getD, List.getElem?_eq_getElem (by omega)]; simp)
    have hb : b < w.heap.size := by
      refine Decidable.byContradiction fun hn => ?_
      have hx : w.heap[b]? = none := by simp; omega
      simp [World.cell?, hx] at hc0
    have hbd := bounds_u8 hw
    exact ⟨b, off, _, rfl, hb, hc0, hbd.1, hbd.2⟩
theorem code_at {w wi : World} {a : Option Addr} {len : Nat} (h : Dr.Code w.heap.size w a len) (k : Below w.heap.size w wi) : Dr.Code wi.heap.size wi a len :=
  ⟨fun i hi => by
    obtain ⟨b, off, x, ea, hb, hc, r⟩ := h.cell i hi
    exact ⟨b, off, x, ea, Nat.lt_of_lt_of_le hb k.size, by rw [k.cell (by simpa using hb)]; exact hc, r⟩⟩
theorem on {W a b : World} (h : Below W.heap.size W a) (k : Below a.heap.size a b) : Below W.heap.size W b := h.trans (k.mono h.size)
theorem un_len (l : Bytes) : (((unpack l).getD []).map B).length ≤ 20 := by
  cases h : unpack l with
  | none => simp
  | some L =>
    have := (okN_facts (unpack_some h).1).2
    simpa using this
theorem un_pack (t : ByteArray) (h : (unpack (bs t)).isSome = true) : B (packB (bL (((unpack (bs t)).getD []).map B))) = t := by
  cases hu : unpack (bs t) with
  | none => rw [hu] at h; cases h
  | some L =>
    obtain ⟨h1, h2⟩ := unpack_some hu
    simp only [Option.getD_some]
    rw [mapB_bL, packB, if_pos h1, h2, B_bs]
theorem packs_no {L : List Bytes} (h : okN L = false) : packB L = [] ∧ plainB L = -1 := by
  unfold packB plainB
  rw [h]
  exact ⟨rfl, rfl⟩
theorem packs_yes {L : List ByteArray} (h : okN (bL L) = true) : unpack (packB (bL L)) = some (bL L) ∧ 0 ≤ plainB (bL L) ∧ ((packB (bL L)).length : Int) ≤ plainB (bL L) ∧ (bL L).map B = L := by
  have e1 : packB (bL L) = pack (bL L) := by rw [packB, if_pos h]
  have e2 : plainB (bL L) = (plainN (bL L) : Int) := by rw [plainB, if_pos h]
  have e3 := (unL_pack h).2
  refine ⟨by rw [e1]; exact unpack_pack h, by rw [e2]; omega, by rw [e1, e2]; omega, ?_⟩
  rw [bL, List.map_map, show (B ∘ bs : ByteArray → ByteArray) = id from funext (fun x => B_bs x), List.map_id]
set_option maxRecDepth 100000 in
set_option maxHeartbeats 16000000 in

theorem walk (a0 : Option Addr) (len0 cap0 : Nat) (z0 : List Int) (w : World) (w0 : IsRow .u8 w a0 len0 cap0 z0) :
    Calls Try.prog 3 #[.slice a0 len0 cap0] w fun e w' => e = .returned (.bool true) ∧ Below w.heap.size w w' := by
  have HC := hidIt (code_of w0)
  clear w0
  have cbig := big_any a0 len0 cap0
  by_cases hbig : 4096 < len0
  · rw [decide_eq_true (show (4096 : Int) < (len0 : Int) by omega)] at cbig
    have CBig := hidIt cbig
    clear cbig
    go_enter Try.func3, Try.ntmps3
    go_wp2_with (fail)
    refine (CBig.out _).mono ?_
    rintro e w1 ⟨rfl, hz⟩
    rw [hz]
    clear hz
    go_wp2_with (fail)
    go_ret
    exact ⟨rfl, Below.refl _ _⟩
  have hl : len0 ≤ 4096 := by omega
  rw [decide_eq_false (show ¬ (4096 : Int) < (len0 : Int) by omega)] at cbig
  have CBig := hidIt cbig
  clear cbig
  go_enter Try.func3, Try.ntmps3
  go_wp2_with (fail)
  refine (CBig.out _).mono ?_
  rintro e w1 ⟨rfl, hz⟩
  rw [hz]
  clear hz
  go_wp2_with (fail)
  refine (DrawPacked_any a0 len0 cap0 _ HC.out hl).mono ?_
  rintro e w1 ⟨vl, L, rfl, hL, hO1, hb1⟩
  obtain ⟨xl, cl, rfl, _, _, R1, _⟩ := hO1.form
  have HL1 := hidIt R1
  have HB1 := hidIt hb1
  clear R1 hO1 hb1 CBig hbig
  have CP := hidIt (fun w h => impl_Packed xl cl L w h (by omega))
  have CQ := hidIt (fun w h => spec_Packed xl cl L w h (by omega))
  have CN := hidIt (fun w h => impl_Plain xl cl L w h (by omega))
  have CM := hidIt (fun w h => spec_Plain xl cl L w h (by omega))
  obtain ⟨pk, ep⟩ : ∃ p, p = B (packB (bL L)) := ⟨_, rfl⟩
  obtain ⟨pn, en⟩ : ∃ n, n = plainB (bL L) := ⟨_, rfl⟩
  rw [← ep] at CP CQ
  rw [← en] at CN CM
  have hpz : pk.size ≤ 1240 := by rw [ep, B_size]; exact packB_length _
  have CU2 := hidIt (fun w => impl_Unpacked pk w (by omega))
  have EP := hidIt ep
  have EN := hidIt en
  clear ep en
  have hpk : (pk.toList != pk.toList) = false := by simp
  go_wp2_with (fail)
  refine (CP.out _ HL1.out).mono ?_
  rintro e w2 ⟨rfl, hb2⟩
  have HL2 := hidIt (HL1.out.kept hb2)
  have HB2 := hidIt (on HB1.out hb2)
  clear hb2 HL1 HB1 CP
  go_wp2_with (fail)
  refine (DrawUnpacked_any a0 len0 cap0 _ (code_at HC.out HB2.out) hl).mono ?_
  rintro e w3 ⟨t, rfl, ht, hb3⟩
  have HL3 := hidIt (HL2.out.kept hb3)
  have HB3 := hidIt (on HB2.out hb3)
  clear hb3 HL2 HB2
  have cu := fun w => impl_Unpacked t w (by omega)
  have cv := fun w => spec_Unpacked t w (by omega)
  have hM := un_len (bs t)
  have cw := un_pack t
  have CPU := fun x c w h => impl_Packed x c (((unpack (bs t)).getD []).map B) w h (by omega)
  generalize ((unpack (bs t)).getD []).map B = M at cu cv hM cw CPU
  generalize (unpack (bs t)).isSome = ok at cu cv cw
  have CU := hidIt cu
  have CV := hidIt cv
  have CW := hidIt cw
  have CX := hidIt CPU
  clear cu cv cw CPU
  have hok : (ok != ok) = false := by simp
  go_wp2_with (fail)
  refine (CU.out _).mono ?_
  rintro e w4 ⟨vu, rfl, hO4, hb4⟩
  obtain ⟨xu, cu, rfl, _, _, R4, _⟩ := hO4.form
  have HU4 := hidIt R4
  have HL4 := hidIt (HL3.out.kept hb4)
  have HB4 := hidIt (on HB3.out hb4)
  clear hb4 HL3 HB3 hO4 R4 CU
  go_wp2_with (fail)
  refine (CN.out _ HL4.out).mono ?_
  rintro e w5 ⟨rfl, hb5⟩
  have HU5 := hidIt (HU4.out.kept hb5)
  have HL5 := hidIt (HL4.out.kept hb5)
  have HB5 := hidIt (on HB4.out hb5)
  clear hb5 HL4 HB4 HU4 CN
  go_wp2_with (fail)
  refine (CV.out _).mono ?_
  rintro e w6 ⟨vx, rfl, hO6, hb6⟩
  obtain ⟨xx, cx, rfl, _, _, R6, _⟩ := hO6.form
  have HX6 := hidIt R6
  have HU6 := hidIt (HU5.out.kept hb6)
  have HL6 := hidIt (HL5.out.kept hb6)
  have HB6 := hidIt (on HB5.out hb6)
  clear hb6 HL5 HB5 HU5 hO6 R6 CV
  go_wp2_with (fail)
  refine (likeTexts_any xu xx cu cx M _ HU6.out HX6.out (by omega)).mono ?_
  rintro e w7 ⟨rfl, hb7⟩
  have HU7 := hidIt (HU6.out.kept hb7)
  have HL7 := hidIt (HL6.out.kept hb7)
  have HB7 := hidIt (on HB6.out hb7)
  clear hb7 HL6 HB6 HU6 HX6
  go_wp2_with (fail)
  refine (CQ.out _ HL7.out).mono ?_
  rintro e w8 ⟨rfl, hb8⟩
  have HU8 := hidIt (HU7.out.kept hb8)
  have HL8 := hidIt (HL7.out.kept hb8)
  have HB8 := hidIt (on HB7.out hb8)
  clear hb8 HL7 HB7 HU7 CQ
  go_wp2_with (fail)
  refine (CM.out _ HL8.out).mono ?_
  rintro e w9 ⟨rfl, hb9⟩
  have HUx := hidIt (HU8.out.kept hb9)
  have HLx := hidIt (HL8.out.kept hb9)
  have HBx := hidIt (on HB8.out hb9)
  clear hb9 HL8 HB8 HU8 CM HC
  cases ok with
  | false =>
    clear CW CX HUx
    cases hk : okN (bL L) with
    | false =>
      obtain ⟨ep, en⟩ := packs_no hk
      rw [ep] at EP
      rw [en] at EN
      have p0 : pk = ByteArray.empty := EP.out
      have n0 : pn = -1 := EN.out
      subst p0 n0
      clear EP EN hk ep en CU2
      go_wp2_with (fail)
      go_ret
      exact ⟨rfl, HBx.out⟩
    | true =>
      obtain ⟨e1, e2, e3, e4⟩ := packs_yes hk
      have hz : ((pk.size : Nat) : Int) ≤ pn := by rw [EP.out, EN.out, B_size]; exact e3
      have hn0 : ¬ pn < 0 := by rw [EN.out]; omega
      have C9 := hidIt (CU2.out)
      have eb : bs pk = packB (bL L) := by rw [EP.out, bs_B]
      rw [eb, e1] at C9
      have C10 := hidIt (fun w => C9.out w)
      simp only [Option.isSome_some, Option.getD_some] at C10
      rw [e4] at C10
      clear EP EN hk e1 e2 e3 e4 C9 eb CU2
      go_wp2_with (fail)
      refine (C10.out _).mono ?_
      rintro e w9 ⟨v9, rfl, hO9, hb9⟩
      obtain ⟨x9, c9, rfl, _, _, R9, _⟩ := hO9.form
      have HR9 := hidIt R9
      have HL9 := hidIt (HLx.out.kept hb9)
      have HB9 := hidIt (on HBx.out hb9)
      clear hO9 R9 hb9 HLx HBx
      go_wp2_with (fail)
      refine (likeTexts_any x9 xl c9 cl L _ HR9.out HL9.out (by omega)).mono ?_
      rintro e w10 ⟨rfl, hb10⟩
      have HB10 := hidIt (on HB9.out hb10)
      clear hb10 HB9 HR9 HL9
      go_wp2_with (fail)
      go_ret
      exact ⟨rfl, HB10.out⟩
  | true =>
    have cy := fun w h => CX.out xu cu w h
    rw [CW.out rfl] at cy
    have CY := hidIt cy
    clear cy CX CW
    go_wp2_with (fail)
    refine (CY.out _ HUx.out).mono ?_
    rintro e wy ⟨rfl, hby⟩
    have HLy := hidIt (HLx.out.kept hby)
    have HBy := hidIt (on HBx.out hby)
    clear hby HLx HBx HUx CY
    have HLx := HLy
    have HBx := HBy
    clear HLy HBy
    cases hk : okN (bL L) with
    | false =>
      obtain ⟨ep, en⟩ := packs_no hk
      rw [ep] at EP
      rw [en] at EN
      have p0 : pk = ByteArray.empty := EP.out
      have n0 : pn = -1 := EN.out
      subst p0 n0
      clear EP EN hk ep en CU2
      go_wp2_with (fail)
      go_ret
      exact ⟨rfl, HBx.out⟩
    | true =>
      obtain ⟨e1, e2, e3, e4⟩ := packs_yes hk
      have hz : ((pk.size : Nat) : Int) ≤ pn := by rw [EP.out, EN.out, B_size]; exact e3
      have hn0 : ¬ pn < 0 := by rw [EN.out]; omega
      have C9 := hidIt (CU2.out)
      have eb : bs pk = packB (bL L) := by rw [EP.out, bs_B]
      rw [eb, e1] at C9
      have C10 := hidIt (fun w => C9.out w)
      simp only [Option.isSome_some, Option.getD_some] at C10
      rw [e4] at C10
      clear EP EN hk e1 e2 e3 e4 C9 eb CU2
      go_wp2_with (fail)
      refine (C10.out _).mono ?_
      rintro e w9 ⟨v9, rfl, hO9, hb9⟩
      obtain ⟨x9, c9, rfl, _, _, R9, _⟩ := hO9.form
      have HR9 := hidIt R9
      have HL9 := hidIt (HLx.out.kept hb9)
      have HB9 := hidIt (on HBx.out hb9)
      clear hO9 R9 hb9 HLx HBx
      go_wp2_with (fail)
      refine (likeTexts_any x9 xl c9 cl L _ HR9.out HL9.out (by omega)).mono ?_
      rintro e w10 ⟨rfl, hb10⟩
      have HB10 := hidIt (on HB9.out hb10)
      clear hb10 HB9 HR9 HL9
      go_wp2_with (fail)
      go_ret
      exact ⟨rfl, HB10.out⟩

set_option maxRecDepth 100000 in
theorem lifted (os : Os) (started : os.Started) (H : Type) (enc : TypeId × Value → H) :
    ReturnsInHanded {} Try.checked os 3 .any (Rows.fnPacksSpec.pre6 enc Try.prog Try.f3 Rows.fnPacksRow.domain false) (Rows.fnPacksSpec.post enc Try.prog Try.f3 false true false false) := by
  refine returnsInHanded_of_change (C := Try.checked) own started (by kernel_rfl) Try.func3
    (ChangeSpec.witness6 (enc := enc) (C := Try.checked) false ⟨#[], #[.slice none 0 0], []⟩ 8 (by kernel_rfl) (by kernel_rfl) (by kernel_rfl) (by kernel_rfl)) ?_
  intro W base args ds gs before hval0 hW hcnd _
  have hval : ∀ (j : Nat) t v, Try.f3.params[j]? = some t → args[j]? = some v → Value.okWide Try.prog W .any base t v := hval0
  have hW' := hW
  obtain ⟨p, q, hA0, hV, rfl, hfz, hnd⟩ := hW
  have hA : DataW.TrodAll enc Try.prog W 0 (fun _ => true) true Try.f3.params.toList args.toList ds p := hA0
  rw [Try.params3] at hA hval
  obtain ⟨v0, vs0, d0, ds0, p0, q0, hargs, rfl, rfl, h0, r0⟩ := trodAll_cons hA
  obtain ⟨rfl, rfl, rfl⟩ := trodAll_nil r0
  obtain rfl : args = #[v0] := by cases args; simp_all
  obtain ⟨rfl, rfl⟩ := trodVars_none hV
  have k0 := h0
  have lt0 : ∀ x ∈ p0, x.block < W.heap.size := by obtain ⟨m, hm⟩ := k0; exact DataW.trod_lt m _ _ _ hm
  obtain ⟨a0, len0, cap0, rfl⟩ := okWide_slice Try.underlying22 (hval 0 22 v0 rfl rfl)
  obtain ⟨z0, w0⟩ : ∃ zs, IsRow .u8 W a0 len0 cap0 zs := by
    obtain ⟨fuel, hf⟩ := h0
    rcases open_ints Try.underlying22 Try.underlying5 (by kernel_rfl) hf with ⟨hcs, _⟩ | ⟨x, l, c, zs, hcs, _, hl, hm, hz, _, hcell, hwz⟩
    · simp [Value.cells] at hcs
      obtain ⟨rfl, rfl, rfl⟩ := hcs
      exact ⟨[], .inl ⟨rfl, rfl, rfl, rfl⟩⟩
    · simp [Value.cells] at hcs
      obtain ⟨rfl, rfl, rfl⟩ := hcs
      exact ⟨zs, .inr ⟨_, rfl, hl, hm, by simpa using hz, hcell, hwz⟩⟩
  clear hA0 hval0
  refine (walk a0 len0 cap0 z0 W w0).mono fun e W' ⟨he, bel⟩ => ?_
  subst he
  exact ⟨_, rfl, _, _, _, [], _, [], hW', trodAll_mk1 (shut_bool Try.underlying4 _), (trodAll_cons_mk (Below.trod laidOut (by kernel_rfl) (of_decide_eq_true (by kernel_rfl)) k0 bel lt0) trodAll_mk0), rfl, bel.frame _, fun h => by cases h⟩

theorem over : Rows.fnPacksRow.holds Try.pinned (OpenSpec.ofChange Rows.fnPacksSpec) :=
  OpenClaim.holds_of_wide 3 Try.f3 rfl rfl rfl rfl rfl rfl rfl ⟨rfl, rfl, rfl, rfl, rfl⟩ rfl rfl rfl rfl rfl (by kernel_rfl) Try.func3 (by kernel_rfl)
    (of_decide_eq_true (by kernel_rfl)) (by unfold Func.isWrapper; first | (rw [if_pos (by decide +kernel)]; kernel_rfl) | (rw [if_neg (by decide +kernel)]; exact ⟨rfl, rfl⟩))
    (fun os started H enc _ => lifted os started H enc)
end Go.Proofs.Ytdbldhcelbllgaa.fnPacks
namespace Go.Proofs.Ytdbldhcelbllgaa
theorem fnPacks_holds : Rows.FnPacksSaid := fnPacks.over
#print axioms fnPacks_holds
end Go.Proofs.Ytdbldhcelbllgaa
