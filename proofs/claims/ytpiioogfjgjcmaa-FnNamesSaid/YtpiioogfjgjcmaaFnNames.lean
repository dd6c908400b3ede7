/-
  FnNames answers true at every slice of bytes and leaves it as it was: the program's names answer as the specification's, are in one order, and Under goes with it. No condition.
-/
import Derived.Test.YtpiioogfjgjcmaaRows
import Derived.WalkKit
import Derived.ProofKit
import Derived.OpenShut
import Derived.ShutString
import Derived.ChangeOld
import Derived.Below
import Derived.Lib.SmallJoins
import Derived.Test.YtpiioogfjgjcmaaNameG
import Derived.Deep.Cut
import Derived.Deep.CutRange
namespace Go.Proofs.Ytpiioogfjgjcmaa.fnNames
open Go.ChangeShapes Go.WideShapes Go.ChangeAt Go.RowKit Go.Joins
set_option linter.unusedVariables false

theorem own : ownKnob Try.prog.godebug = none := by kernel_rfl
theorem laidOut : laidOutB Try.prog = true := by kernel_rfl
/-- A row of integers that came in: nil, or cells at an address. -/
def IsRow (k : IntKind) (w : World) (a : Option Addr) (len cap : Nat) (zs : List Int) : Prop :=
  (a = none ∧ len = 0 ∧ cap = 0 ∧ zs = []) ∨
  ∃ x, a = some x ∧ len ≤ cap ∧ cap ≤ maxLen ∧ zs.length = cap ∧ (∀ i, i < zs.length → w.cell? (x.add i) = some (.int k (zs.getD i 0))) ∧ ∀ n ∈ zs, (Lit.int k n).wf = true
open Nm
theorem code_of {w : World} {a : Option Addr} {len cap : Nat} {zs : List Int} (h : IsRow .u8 w a len cap zs) : Dr.Code w.heap.size w a len := by
  refine ⟨fun i hi => ?_⟩
  rcases h with ⟨rfl, rfl, rfl, rfl⟩ | ⟨x, rfl, hl, hm, hz, hcell, hwz⟩
  · omega
  · have hc := hcell i (by omega)
    obtain ⟨b, off, spot⟩ := x
    have h00 := hcell 0 (by omega)
    have hspot : spot = none := by simpa [Addr.add] using World.cell?_spot h00
    subst hspot
    have hc0 : w.cell? ⟨b, off + i, none⟩ = some (.int .u8 (zs.getD i 0)) := by
      by_cases e : i = 0
      · subst e; simpa [Addr.add] using hc
      · simpa [Addr.add, e] using hc
    have hw := hwz (zs.getD i 0) (by rw [List.getD_eq_getElem?_getD, List.getElem?_eq_getElem (by omega)]; simp)
    have hb : b < w.heap.size := by
      refine Decidable.byContradiction fun hn => ?_
      have hx : w.heap[b]? = none := by simp; omega
      simp [World.cell?, hx] at hc0
    have hbd := bounds_u8 hw
    exact ⟨b, off, _, rfl, hb, hc0, hbd.1, hbd.2⟩
theorem code_at {w wi : World} {a : Option Addr} {len : Nat} (h : Dr.Code w.heap.size w a len) (k : Below w.heap.size w wi) : Dr.Code wi.heap.size wi a len :=
  ⟨fun i hi => by
    obtain ⟨b, off, x, ea, hb, hc, r⟩ := h.cell i hi
    exact ⟨b, off, x, ea, Nat.lt_of_lt_of_le hb k.size, by rw [k.cell (by simpa using hb)]; exact hc, r⟩⟩
theorem formN {w : World} {base n : Nat} {v : Value} {L : List ByteArray} (h : Nm.Own w base v L) (hn : L.length = n) : ∃ a cap, v = .slice a n cap ∧ Rd w a L := by
  subst hn
  obtain ⟨a, cap, e, _, _, r, _⟩ := h.form
  exact ⟨a, cap, e, r⟩
theorem on {W a b : World} (h : Below W.heap.size W a) (k : Below a.heap.size a b) : Below W.heap.size W b := h.trans (k.mono h.size)
set_option maxRecDepth 100000 in
set_option maxHeartbeats 16000000 in

theorem walk (a0 : Option Addr) (len0 cap0 : Nat) (z0 : List Int) (w : World) (w0 : IsRow .u8 w a0 len0 cap0 z0) :
    Calls Try.prog 3 #[.slice a0 len0 cap0] w fun e w' => e = .returned (.bool true) ∧ Below w.heap.size w w' := by
  have HC := hidIt (code_of w0)
  clear w0
  have cbig := big_any a0 len0 cap0
  by_cases hbig : 4096 < len0
  · rw [decide_eq_true (show (4096 : Int) < (len0 : Int) by omega)] at cbig
    have CBig := hidIt cbig
    clear cbig
    go_enter Try.func3, Try.ntmps3
    go_wp2_with (fail)
    refine (CBig.out _).mono ?_
    rintro e w1 ⟨rfl, hz⟩
    rw [hz]
    clear hz
    go_wp2_with (fail)
    go_ret
    exact ⟨rfl, Below.refl _ _⟩
  have hl : len0 ≤ 4096 := by omega
  rw [decide_eq_false (show ¬ (4096 : Int) < (len0 : Int) by omega)] at cbig
  have CBig := hidIt cbig
  clear cbig
  go_enter Try.func3, Try.ntmps3
  go_wp2_with (fail)
  refine (CBig.out _).mono ?_
  rintro e w1 ⟨rfl, hz⟩
  rw [hz]
  clear hz
  go_wp2_with (fail)
  refine (DrawBefore_any a0 len0 cap0 _ HC.out hl).mono ?_
  rintro e w1 ⟨sa, sb, rfl, hb1⟩
  have HB1 := hidIt hb1
  obtain ⟨x, ex⟩ : ∃ x, beforeB (bs sa) (bs sb) = x := ⟨_, rfl⟩
  have C1 := impl_Before sa sb
  rw [ex] at C1
  clear hb1 CBig hbig
  go_wp2_with (fail)
  refine (C1 _).mono ?_
  rintro e w2 ⟨rfl, hb2⟩
  have HB2 := hidIt (on HB1.out hb2)
  clear hb2 C1 HB1
  go_wp2_with (fail)
  refine (DrawUnder_any a0 len0 cap0 _ (code_at HC.out HB2.out) hl).mono ?_
  rintro e w3 ⟨sc, sd, rfl, hb3⟩
  have HB3 := hidIt (on HB2.out hb3)
  obtain ⟨u, eu⟩ : ∃ u, underB (bs sc) (bs sd) = u := ⟨_, rfl⟩
  have C1 := impl_Under sc sd
  rw [eu] at C1
  clear hb3 HB2
  go_wp2_with (fail)
  refine (C1 _).mono ?_
  rintro e w4 ⟨rfl, hb4⟩
  have HB4 := hidIt (on HB3.out hb4)
  clear hb4 C1 HB3
  go_wp2_with (fail)
  refine (DrawLabels_any a0 len0 cap0 _ (code_at HC.out HB4.out) hl).mono ?_
  rintro e w5 ⟨sn, rfl, hb5⟩
  have HB5 := hidIt (on HB4.out hb5)
  clear hb5 HB4
  have CL := impl_Labels sn
  have CSL := spec_Labels sn
  have hM := labs_len (bs sn)
  have hone := names_one (bs sn)
  have CLp := impl_Labels (B (parentB (bs sn)))
  have CUp := impl_Under sn (B (parentB (bs sn)))
  have CIP := impl_Parent sn
  have CSP := spec_Parent sn
  have CIS := impl_Star sn
  have CSS := spec_Star sn
  have ebs : bs (B (parentB (bs sn))) = parentB (bs sn) := bs_B _
  rw [ebs] at CLp CUp
  clear ebs
  have hPz : (B (parentB (bs sn))).size ≤ 9223372036854775000 := by
    rw [B_size]
    unfold parentB
    split
    · next h => have := after_length (bs sn); have := ok_short h; omega
    · simp
  have hone' : ((labsB (bs sn)).length = 0 → B (parentB (bs sn)) = ByteArray.empty) ∧ ((labsB (bs sn)).length ≠ 0 → underB (bs sn) (parentB (bs sn)) = true ∧ (labsB (parentB (bs sn))).length + 1 = (labsB (bs sn)).length ∧ B (starB (bs sn)) = ⟨#[42, 46]⟩ ++ B (parentB (bs sn))) := by
    refine ⟨fun h => by rw [hone.1 h]; rfl, fun h => ⟨(hone.2 h).1, (hone.2 h).2.1, ?_⟩⟩
    rw [(hone.2 h).2.2, star_bytes]
  clear hone
  generalize B (parentB (bs sn)) = P at CLp CUp CIP CSP hone' hPz
  generalize B (starB (bs sn)) = S at CIS CSS hone'
  generalize underB (bs sn) (parentB (bs sn)) = un at CUp hone'
  generalize labsB (parentB (bs sn)) = Mp at CLp hone'
  generalize labsB (bs sn) = M at CL CSL hM hone'
  obtain ⟨nl, enl⟩ : ∃ nl, M.length = nl := ⟨_, rfl⟩
  obtain ⟨np, enp⟩ : ∃ np, Mp.length = np := ⟨_, rfl⟩
  rw [enl, enp] at hone'
  rw [enl] at hM
  have HONE := hidIt hone'
  have HNL := hidIt enl
  have HNP := hidIt enp
  clear hone' enl enp
  have hfour := names_four (bs sa) (bs sb) (bs sc) (bs sd)
  have CSB := spec_Before sa sb
  have CSU := spec_Under sc sd
  have CKa := impl_NameOk sa
  have CKs := spec_NameOk sa
  have CKb := impl_NameOk sb
  have CBba := impl_Before sb sa
  have CBaa := impl_Before sa sa
  have CBdc := impl_Before sd sc
  have CLd := impl_Labels sd
  have CLc := impl_Labels sc
  have CBda := impl_Before sd sa
  have CBac := impl_Before sa sc
  have CUad := impl_Under sa sd
  have hMc := labs_len (bs sc)
  have hMd := labs_len (bs sd)
  rw [ex] at CSB hfour
  rw [eu] at CSU hfour
  rw [hfour.1] at CBaa
  clear ex eu
  replace hfour := hfour.2
  generalize okB (bs sa) = oa at CKa CKs hfour
  generalize okB (bs sb) = ob at CKb hfour
  generalize beforeB (bs sb) (bs sa) = y at CBba hfour
  generalize beforeB (bs sd) (bs sc) = dc at CBdc hfour
  generalize beforeB (bs sd) (bs sa) = da at CBda hfour
  generalize beforeB (bs sa) (bs sc) = ac at CBac hfour
  generalize underB (bs sa) (bs sd) = ad at CUad hfour
  generalize labsB (bs sc) = Mc at CLc hfour hMc
  generalize labsB (bs sd) = Md at CLd hfour hMd
  obtain ⟨nc, enc⟩ : ∃ nc, Mc.length = nc := ⟨_, rfl⟩
  obtain ⟨nd, end'⟩ : ∃ nd, Md.length = nd := ⟨_, rfl⟩
  rw [enc, end'] at hfour
  rw [enc] at hMc
  rw [end'] at hMd
  have HNC := hidIt enc
  have HND := hidIt end'
  clear enc end'
  have hfour' : (oa = true → ob = true → (x = true → y = false) ∧ (x = false → y = false → sa = sb)) ∧ ((oa && ob) = false → x = false) ∧ (u = true → sc ≠ sd → dc = true) ∧ (u = true → nd ≤ nc) ∧ (u = true → da = true → ac = true → ad = true) :=
    ⟨fun h k => ⟨(hfour.1 h k).1, fun p q => bs_inj ((hfour.1 h k).2 p q)⟩, hfour.2.1, fun h k => hfour.2.2.1 h (fun e => k (bs_inj e)), hfour.2.2.2.1, hfour.2.2.2.2⟩
  have HF := hidIt hfour'
  clear hfour hfour'
  have hx0 : (x != x) = false := by cases x <;> rfl
  have hu0 : (u != u) = false := by cases u <;> rfl
  have ho0 : (oa != oa) = false := by cases oa <;> rfl
  have HCL := hidIt CL
  have HCSL := hidIt CSL
  have HCLp := hidIt CLp
  have HCUp := hidIt CUp
  have HCIP := hidIt CIP
  have HCSP := hidIt CSP
  have HCIS := hidIt CIS
  have HCSS := hidIt CSS
  have HCSB := hidIt CSB
  have HCSU := hidIt CSU
  have HCKa := hidIt CKa
  have HCKs := hidIt CKs
  have HCKb := hidIt CKb
  have HCBba := hidIt CBba
  have HCBaa := hidIt CBaa
  have HCBdc := hidIt CBdc
  have HCLd := hidIt CLd
  have HCLc := hidIt CLc
  have HCBda := hidIt CBda
  have HCBac := hidIt CBac
  have HCUad := hidIt CUad
  clear CL CSL CLp CUp CIP CSP CIS CSS CSB CSU CKa CKs CKb CBba CBaa CBdc CLd CLc CBda CBac CUad HC
  go_wp2_with (fail)
  refine (HCL.out _).mono ?_
  rintro e w6 ⟨vl, rfl, hO6, hb6⟩
  have HB6 := hidIt (on HB5.out hb6)
  obtain ⟨xl, cl, rfl, hR6⟩ := formN hO6 HNL.out
  have R6 := hidIt hR6
  clear hb6 hO6 hR6 HB5
  go_wp2_with (fail)
  refine (HCSB.out _).mono ?_
  rintro e w7 ⟨rfl, hb7⟩
  have HB7 := hidIt (on HB6.out hb7)
  have R7 := hidIt (R6.out.kept hb7)
  clear hb7 R6 HB6
  go_wp2_with (fail)
  refine (HCSU.out _).mono ?_
  rintro e w8 ⟨rfl, hb8⟩
  have HB8 := hidIt (on HB7.out hb8)
  have R8 := hidIt (R7.out.kept hb8)
  clear hb8 R7 HB7
  go_wp2_with (fail)
  refine (HCSL.out _).mono ?_
  rintro e w9 ⟨vs, rfl, hO9, hb9⟩
  have HB9 := hidIt (on HB8.out hb9)
  have R9 := hidIt (R8.out.kept hb9)
  obtain ⟨xs, cs, rfl, hS9⟩ := formN hO9 HNL.out
  have S9 := hidIt hS9
  clear hb9 R8 HB8 hO9 hS9
  have CT : Calls Try.prog 18 #[.slice xl nl cl, .slice xs nl cs] w9 fun e w' => e = .returned (.bool true) ∧ Below w9.heap.size w9 w' := by
    have := likeTexts_any xl xs cl cs M w9 R9.out S9.out (by rw [HNL.out]; omega)
    rwa [HNL.out] at this
  have HCT := hidIt CT
  clear CT
  go_wp2_with (fail)
  refine HCT.out.mono ?_
  rintro e w10 ⟨rfl, hb10⟩
  have HB10 := hidIt (on HB9.out hb10)
  clear hb10 R9 S9 HCT HB9
  go_wp2_with (fail)
  refine (HCIP.out _).mono ?_
  rintro e w11 ⟨rfl, hb11⟩
  have HB11 := hidIt (on HB10.out hb11)
  clear hb11 HB10
  go_wp2_with (fail)
  refine (HCSP.out _).mono ?_
  rintro e w12 ⟨rfl, hb12⟩
  have HB12 := hidIt (on HB11.out hb12)
  clear hb12 HB11
  go_wp2_with (fail)
  refine (HCIS.out _).mono ?_
  rintro e w13 ⟨rfl, hb13⟩
  have HB13 := hidIt (on HB12.out hb13)
  clear hb13 HB12
  go_wp2_with (fail)
  refine (HCSS.out _).mono ?_
  rintro e w14 ⟨rfl, hb14⟩
  have HB14 := hidIt (on HB13.out hb14)
  clear hb14 HB13
  go_wp2_with (fail)
  refine (HCKa.out _).mono ?_
  rintro e w15 ⟨rfl, hb15⟩
  have HB15 := hidIt (on HB14.out hb15)
  clear hb15 HB14
  go_wp2_with (fail)
  refine (HCKs.out _).mono ?_
  rintro e w16 ⟨rfl, hb16⟩
  have HB := hidIt (on HB15.out hb16)
  clear hb16 HB15
  go_upto_region 11 with (fail)
  go_cut [78] from 73 to 78 (fun s wx => s = .bool (oa && ob) ∧ Below w.heap.size w wx)
  case first =>
    cases oa with
    | false =>
      go_wp2_with (go_at_call 24; refine (HCKa.out _).mono ?_; clear HCKa; rintro e w9 ⟨rfl, k9⟩; replace HB := hidIt (on HB.out k9); clear k9)
      go_meet
      case rel => exact ⟨rfl, HB.out⟩
    | true =>
      cases ob with
      | false =>
        go_wp2_with (first
          | (go_at_call 24; refine (HCKa.out _).mono ?_; clear HCKa; rintro e w9 ⟨rfl, k9⟩; replace HB := hidIt (on HB.out k9); clear k9)
          | (go_at_call 24; refine (HCKb.out _).mono ?_; clear HCKb; rintro e w9 ⟨rfl, k9⟩; replace HB := hidIt (on HB.out k9); clear k9))
        go_meet
        case rel => exact ⟨rfl, HB.out⟩
      | true =>
        go_wp2_with (first
          | (go_at_call 24; refine (HCKa.out _).mono ?_; clear HCKa; rintro e w9 ⟨rfl, k9⟩; replace HB := hidIt (on HB.out k9); clear k9)
          | (go_at_call 24; refine (HCKb.out _).mono ?_; clear HCKb; rintro e w9 ⟨rfl, k9⟩; replace HB := hidIt (on HB.out k9); clear k9))
        go_meet
        case rel => exact ⟨rfl, HB.out⟩
  case rest =>
  obtain ⟨rfl, hbc⟩ := hcut
  replace HB := hidIt hbc
  clear hbc
  go_upto_if 78 with (fail)
  go_cut [] from 73 to 105 (fun wx => Below w.heap.size w wx)
  case first =>
    cases hoo : (oa && ob) with
    | false =>
      obtain rfl := HF.out.2.1 hoo
      clear hoo
      go_wp2_with (fail)
      go_meet
      case rel => exact HB.out
    | true =>
      have hoa : oa = true := by cases oa <;> simp_all
      have hob : ob = true := by cases ob <;> simp_all
      have h12 := HF.out.1 hoa hob
      clear hoo
      subst hoa hob
      cases x with
      | true =>
        obtain rfl := h12.1 rfl
        clear h12
        go_wp2_with (first
          | (go_at_call 11; refine (HCBba.out _).mono ?_; clear HCBba; rintro e w9 ⟨rfl, k9⟩; replace HB := hidIt (on HB.out k9); clear k9)
          | (go_at_call 11; refine (HCBaa.out _).mono ?_; clear HCBaa; rintro e w9 ⟨rfl, k9⟩; replace HB := hidIt (on HB.out k9); clear k9))
        go_meet
        case rel => exact HB.out
      | false =>
        cases y with
        | true =>
          clear h12
          go_wp2_with (first
            | (go_at_call 11; refine (HCBba.out _).mono ?_; clear HCBba; rintro e w9 ⟨rfl, k9⟩; replace HB := hidIt (on HB.out k9); clear k9)
            | (go_at_call 11; refine (HCBaa.out _).mono ?_; clear HCBaa; rintro e w9 ⟨rfl, k9⟩; replace HB := hidIt (on HB.out k9); clear k9))
          go_meet
          case rel => exact HB.out
        | false =>
          obtain rfl := h12.2 rfl rfl
          clear h12
          go_wp2_with (first
            | (go_at_call 11; refine (HCBba.out _).mono ?_; clear HCBba; rintro e w9 ⟨rfl, k9⟩; replace HB := hidIt (on HB.out k9); clear k9)
            | (go_at_call 11; refine (HCBaa.out _).mono ?_; clear HCBaa; rintro e w9 ⟨rfl, k9⟩; replace HB := hidIt (on HB.out k9); clear k9))
          go_meet
          case rel => exact HB.out
  case rest =>
  replace HB := hidIt hcut
  clear hcut
  go_upto_region 16 with (fail)
  go_cut [129] from 106 to 129 (fun s wx => s = .bool false ∧ Below w.heap.size w wx)
  case first =>
    cases u with
    | false =>
      go_wp2_with (fail)
      go_meet
      case rel => exact ⟨rfl, HB.out⟩
    | true =>
      have hnn : ¬ (nc : Int) < (nd : Int) := by have := HF.out.2.2.2.1 rfl; omega
      have hnn' : decide ((nc : Int) < (nd : Int)) = false := decide_eq_false hnn
      by_cases hcd : sc = sd
      · subst hcd
        go_wp2_with (first
          | (go_at_call 15; refine (HCLd.out _).mono ?_; clear HCLd; rintro e w9 ⟨v9, rfl, o9, k9⟩; obtain ⟨xd, cd, rfl, _⟩ := formN o9 HND.out; replace HB := hidIt (on HB.out k9); clear k9 o9)
          | (go_at_call 15; refine (HCLc.out _).mono ?_; clear HCLc; rintro e w9 ⟨v9, rfl, o9, k9⟩; obtain ⟨xc, cc, rfl, _⟩ := formN o9 HNC.out; replace HB := hidIt (on HB.out k9); clear k9 o9))
        go_meet
        case rel => exact ⟨by simp_all, HB.out⟩
      · have hcd' := neq_of hcd
        obtain rfl := HF.out.2.2.1 rfl hcd
        go_wp2_with (first
          | (go_at_call 11; refine (HCBdc.out _).mono ?_; clear HCBdc; rintro e w9 ⟨rfl, k9⟩; replace HB := hidIt (on HB.out k9); clear k9)
          | (go_at_call 15; refine (HCLd.out _).mono ?_; clear HCLd; rintro e w9 ⟨v9, rfl, o9, k9⟩; obtain ⟨xd, cd, rfl, _⟩ := formN o9 HND.out; replace HB := hidIt (on HB.out k9); clear k9 o9)
          | (go_at_call 15; refine (HCLc.out _).mono ?_; clear HCLc; rintro e w9 ⟨v9, rfl, o9, k9⟩; obtain ⟨xc, cc, rfl, _⟩ := formN o9 HNC.out; replace HB := hidIt (on HB.out k9); clear k9 o9))
        go_meet
        case rel => exact ⟨by simp_all, HB.out⟩
  case rest =>
  obtain ⟨rfl, hbc⟩ := hcut
  replace HB := hidIt hbc
  clear hbc
  go_upto_region 18 with (fail)
  go_cut [150] from 130 to 150 (fun s wx => s = .bool false ∧ Below w.heap.size w wx)
  case first =>
    cases u with
    | false =>
      go_wp2_with (fail)
      go_meet
      case rel => exact ⟨rfl, HB.out⟩
    | true =>
      cases oa with
      | false =>
        go_wp2_with (go_at_call 24; refine (HCKa.out _).mono ?_; clear HCKa; rintro e w9 ⟨rfl, k9⟩; replace HB := hidIt (on HB.out k9); clear k9)
        go_meet
        case rel => exact ⟨rfl, HB.out⟩
      | true =>
        cases da with
        | false =>
          go_wp2_with (first
            | (go_at_call 24; refine (HCKa.out _).mono ?_; clear HCKa; rintro e w9 ⟨rfl, k9⟩; replace HB := hidIt (on HB.out k9); clear k9)
            | (go_at_call 11; refine (HCBda.out _).mono ?_; clear HCBda; rintro e w9 ⟨rfl, k9⟩; replace HB := hidIt (on HB.out k9); clear k9))
          go_meet
          case rel => exact ⟨rfl, HB.out⟩
        | true =>
          cases ac with
          | false =>
            go_wp2_with (first
              | (go_at_call 24; refine (HCKa.out _).mono ?_; clear HCKa; rintro e w9 ⟨rfl, k9⟩; replace HB := hidIt (on HB.out k9); clear k9)
              | (go_at_call 11; refine (HCBda.out _).mono ?_; clear HCBda; rintro e w9 ⟨rfl, k9⟩; replace HB := hidIt (on HB.out k9); clear k9)
              | (go_at_call 11; refine (HCBac.out _).mono ?_; clear HCBac; rintro e w9 ⟨rfl, k9⟩; replace HB := hidIt (on HB.out k9); clear k9))
            go_meet
            case rel => exact ⟨rfl, HB.out⟩
          | true =>
            obtain rfl := HF.out.2.2.2.2 rfl rfl rfl
            go_wp2_with (first
              | (go_at_call 24; refine (HCKa.out _).mono ?_; clear HCKa; rintro e w9 ⟨rfl, k9⟩; replace HB := hidIt (on HB.out k9); clear k9)
              | (go_at_call 11; refine (HCBda.out _).mono ?_; clear HCBda; rintro e w9 ⟨rfl, k9⟩; replace HB := hidIt (on HB.out k9); clear k9)
              | (go_at_call 11; refine (HCBac.out _).mono ?_; clear HCBac; rintro e w9 ⟨rfl, k9⟩; replace HB := hidIt (on HB.out k9); clear k9)
              | (go_at_call 13; refine (HCUad.out _).mono ?_; clear HCUad; rintro e w9 ⟨rfl, k9⟩; replace HB := hidIt (on HB.out k9); clear k9))
            go_meet
            case rel => exact ⟨rfl, HB.out⟩
  case rest =>
  obtain ⟨rfl, hbc⟩ := hcut
  replace HB := hidIt hbc
  clear hbc
  by_cases hnl : nl = 0
  · subst hnl
    obtain rfl := HONE.out.1 rfl
    clear HCLp HCUp HCSP
    go_wp2_with (go_at_call 20; refine (HCIP.out _).mono ?_; rintro e w9 ⟨rfl, k9⟩; replace HB := hidIt (on HB.out k9); clear k9)
    go_ret
    exact ⟨rfl, HB.out⟩
  · obtain ⟨rfl, hnp, rfl⟩ := HONE.out.2 hnl
    have hnl' : ((nl : Int) == 0) = false := by simp; omega
    have hq1 : ((np : Int) == (nl : Int) - 1) = true := by simp; omega
    have hq2 : (np : Int) = (nl : Int) - 1 := by omega
    have hq3 : (⟨#[42, 46]⟩ : ByteArray).size = 2 := rfl
    have hq4 : ¬ 9223372036854775807 < 2 + P.size := by omega
    have HP2 := hidIt HCIP.out
    have HP3 := hidIt HCIP.out
    clear HCSP HCSS
    go_wp2_with (first
      | (go_at_call 20; refine (HCIP.out _).mono ?_; clear HCIP; rintro e w9 ⟨rfl, k9⟩; replace HB := hidIt (on HB.out k9); clear k9)
      | (go_at_call 13; refine (HCUp.out _).mono ?_; clear HCUp; rintro e w9 ⟨rfl, k9⟩; replace HB := hidIt (on HB.out k9); clear k9)
      | (go_at_call 20; refine (HP2.out _).mono ?_; clear HP2; rintro e w9 ⟨rfl, k9⟩; replace HB := hidIt (on HB.out k9); clear k9)
      | (go_at_call 15; refine (HCLp.out _).mono ?_; clear HCLp; rintro e w9 ⟨v9, rfl, o9, k9⟩; obtain ⟨xp, cp, rfl, _⟩ := formN o9 HNP.out; replace HB := hidIt (on HB.out k9); clear k9 o9)
      | (go_at_call 22; refine (HCIS.out _).mono ?_; clear HCIS; rintro e w9 ⟨rfl, k9⟩; replace HB := hidIt (on HB.out k9); clear k9)
      | (go_at_call 20; refine (HP3.out _).mono ?_; clear HP3; rintro e w9 ⟨rfl, k9⟩; replace HB := hidIt (on HB.out k9); clear k9))
    go_ret
    exact ⟨rfl, HB.out⟩

set_option maxRecDepth 100000 in
theorem lifted (os : Os) (started : os.Started) (H : Type) (enc : TypeId × Value → H) :
    ReturnsInHanded {} Try.checked os 3 .any (Rows.fnNamesSpec.pre6 enc Try.prog Try.f3 Rows.fnNamesRow.domain false) (Rows.fnNamesSpec.post enc Try.prog Try.f3 false true false false) := by
  refine returnsInHanded_of_change (C := Try.checked) own started (by kernel_rfl) Try.func3
    (ChangeSpec.witness6 (enc := enc) (C := Try.checked) false ⟨#[], #[.slice none 0 0], []⟩ 8 (by kernel_rfl) (by kernel_rfl) (by kernel_rfl) (by kernel_rfl)) ?_
  intro W base args ds gs before hval0 hW hcnd _
  have hval : ∀ (j : Nat) t v, Try.f3.params[j]? = some t → args[j]? = some v → Value.okWide Try.prog W .any base t v := hval0
  have hW' := hW
  obtain ⟨p, q, hA0, hV, rfl, hfz, hnd⟩ := hW
  have hA : DataW.TrodAll enc Try.prog W 0 (fun _ => true) true Try.f3.params.toList args.toList ds p := hA0
  rw [Try.params3] at hA hval
  obtain ⟨v0, vs0, d0, ds0, p0, q0, hargs, rfl, rfl, h0, r0⟩ := trodAll_cons hA
  obtain ⟨rfl, rfl, rfl⟩ := trodAll_nil r0
  obtain rfl : args = #[v0] := by cases args; simp_all
  obtain ⟨rfl, rfl⟩ := trodVars_none hV
  have k0 := h0
  have lt0 : ∀ x ∈ p0, x.block < W.heap.size := by obtain ⟨m, hm⟩ := k0; exact DataW.trod_lt m _ _ _ hm
  obtain ⟨a0, len0, cap0, rfl⟩ := okWide_slice Try.underlying22 (hval 0 22 v0 rfl rfl)
  obtain ⟨z0, w0⟩ : ∃ zs, IsRow .u8 W a0 len0 cap0 zs := by
    obtain ⟨fuel, hf⟩ := h0
    rcases open_ints Try.underlying22 Try.underlying5 (by kernel_rfl) hf with ⟨hcs, _⟩ | ⟨x, l, c, zs, hcs, _, hl, hm, hz, _, hcell, hwz⟩
    · simp [Value.cells] at hcs
      obtain ⟨rfl, rfl, rfl⟩ := hcs
      exact ⟨[], .inl ⟨rfl, rfl, rfl, rfl⟩⟩
    · simp [Value.cells] at hcs
      obtain ⟨rfl, rfl, rfl⟩ := hcs
      exact ⟨zs, .inr ⟨_, rfl, hl, hm, by simpa using hz, hcell, hwz⟩⟩
  clear hA0 hval0
  refine (walk a0 len0 cap0 z0 W w0).mono fun e W' ⟨he, bel⟩ => ?_
  subst he
  exact ⟨_, rfl, _, _, _, [], _, [], hW', trodAll_mk1 (shut_bool Try.underlying4 _), (trodAll_cons_mk (Below.trod laidOut (by kernel_rfl) (of_decide_eq_true (by kernel_rfl)) k0 bel lt0) trodAll_mk0), rfl, bel.frame _, fun h => by cases h⟩

theorem over : Rows.fnNamesRow.holds Try.pinned (OpenSpec.ofChange Rows.fnNamesSpec) :=
  OpenClaim.holds_of_wide 3 Try.f3 rfl rfl rfl rfl rfl rfl rfl ⟨rfl, rfl, rfl, rfl, rfl⟩ rfl rfl rfl rfl rfl (by kernel_rfl) Try.func3 (by kernel_rfl)
    (of_decide_eq_true (by kernel_rfl)) (by unfold Func.isWrapper; first | (rw [if_pos (by decide +kernel)]; kernel_rfl) | (rw [if_neg (by decide +kernel)]; exact ⟨rfl, rfl⟩))
    (fun os started H enc _ => lifted os started H enc)
end Go.Proofs.Ytpiioogfjgjcmaa.fnNames
namespace Go.Proofs.Ytpiioogfjgjcmaa
theorem fnNames_holds : Rows.FnNamesSaid := fnNames.over
#print axioms fnNames_holds
end Go.Proofs.Ytpiioogfjgjcmaa
