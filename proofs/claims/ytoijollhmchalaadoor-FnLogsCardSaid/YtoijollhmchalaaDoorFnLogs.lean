/-
  FnLogs answers true at every slice of bytes and leaves it as it was: a log that goes on is a log, begins as it did, and with one byte of one text changed it is none. No condition but that the library's table of powers of ten lies as its text lays it.
-/
import Derived.Test.YtoijollhmchalaaDoorRows
import Derived.WalkKit
import Derived.ProofKit
import Derived.OpenShut
import Derived.ShutString
import Derived.ChangeOld
import Derived.Below
import Derived.Lib.SmallJoins
import Derived.Test.YtoijollhmchalaaDoorDoorMet
import Derived.Test.YtoijollhmchalaaDoorTie
import Derived.Test.YtoijollhmchalaaDoorCards
import Derived.LaidMore
import Derived.Stop.Joined
import Derived.SevenTiedAt
import Derived.Test.YtoijollhmchalaaDoorLogF
import Derived.Test.YtoijollhmchalaaDoorLogQ
import Derived.Deep.Cut
import Derived.Deep.CutRange
import Derived.Deep.RegionHeld3
import Derived.Deep.RegionWith
import Derived.Laws.StructEq
namespace Go.Proofs.YtoijollhmchalaaDoor.fnLogs
open Go.ChangeShapes Go.WideShapes Go.ChangeAt Go.RowKit Go.Joins
set_option linter.unusedVariables false

theorem own : ownKnob Tryd.prog.godebug = none := by kernel_rfl
theorem laidOut : laidOutB Tryd.prog = true := by kernel_rfl
/-- A row of integers that came in: nil, or cells at an address. -/
def IsRow (k : IntKind) (w : World) (a : Option Addr) (len cap : Nat) (zs : List Int) : Prop :=
  (a = none ∧ len = 0 ∧ cap = 0 ∧ zs = []) ∨
  ∃ x, a = some x ∧ len ≤ cap ∧ cap ≤ maxLen ∧ zs.length = cap ∧ (∀ i, i < zs.length → w.cell? (x.add i) = some (.int k (zs.getD i 0))) ∧ ∀ n ∈ zs, (Lit.int k n).wf = true
open Lg Sg
theorem code_of {w : World} {a : Option Addr} {len cap : Nat} {zs : List Int} (h : IsRow .u8 w a len cap zs) : Dr.Code w.heap.size w a len := by
  refine ⟨fun i hi => ?_⟩
  rcases h with ⟨rfl, rfl, rfl, rfl⟩ | ⟨x, rfl, hl, hm, hz, hcell, hwz⟩
  · omega
  · have hc := hcell i (by omega)
    obtain ⟨b, off, spot⟩ := x
    have h00 := hcell 0 (by omega)
    have hspot : spot = none := by simpa [Addr.add] using World.cell?_spot h00
    subst hspot
    have hc0 : w.cell? ⟨b, off + i, none⟩ = some (.int .u8 (zs.getD i 0)) := by
      by_cases e : i = 0
      · subst e; simpa [Addr.add] using hc
      · simpa [Addr.add, e] using hc
    have hw := hwz (zs.getD i 0) (by rw [List.getD_eq_getElem?_getD, List.getElem?_eq_getElem (by omega)]; simp)
    have hb : b < w.heap.size := by
      refine Decidable.byContradiction fun hn => ?_
      have hx : w.heap[b]? = none := by simp; omega
      simp [World.cell?, hx] at hc0
    have hbd := bounds_u8 hw
    exact ⟨b, off, _, rfl, hb, hc0, hbd.1, hbd.2⟩
theorem code_at {w wi : World} {a : Option Addr} {len : Nat} (h : Dr.Code w.heap.size w a len) (k : Below w.heap.size w wi) : Dr.Code w.heap.size wi a len :=
  ⟨fun i hi => by
    obtain ⟨b, off, x, ea, hb, hc, r⟩ := h.cell i hi
    exact ⟨b, off, x, ea, hb, by rw [k.cell (by simpa using hb)]; exact hc, r⟩⟩
theorem code_up {w : World} {B B' : Nat} {a : Option Addr} {len : Nat} (h : Dr.Code B w a len) (k : B ≤ B') : Dr.Code B' w a len :=
  ⟨fun i hi => by
    obtain ⟨b, off, x, ea, hb, r⟩ := h.cell i hi
    exact ⟨b, off, x, ea, by omega, r⟩⟩
theorem rdN {w : World} {a : Option Addr} {L : List Ln} (h : Rd w a L) (n : Nat) : Rd (w.drewN n) a L := ⟨h.cell⟩
theorem belowN {w : World} (n : Nat) : Below w.heap.size w (w.drewN n) := Go.Proofs.YtoijollhmchalaaDoor.Below.drewN (Below.refl _ _) n
/-- What is known of an owned slice, its length named. -/
theorem formN {w : World} {base n : Nat} {v : Value} {L : List Ln} (h : Own w base v L) (hn : L.length = n) : ∃ a cap, v = .slice a n cap ∧ n ≤ cap ∧ cap ≤ maxLen ∧ Rd w a L ∧ (a = none → cap = 0) ∧ (∀ x, a = some x → ∃ g, x = ⟨g, 0, none⟩ ∧ base ≤ g ∧ g < w.heap.size) := by
  subst hn; exact h.form
/-- What impl.Noted and spec.Noted come to. -/
theorem nt_facts (L : List Ln) (t : ByteArray) : (ntB L t = false ∧ ((okL L = false ∧ ntL L t = []) ∨ (okL L = true ∧ ntL L t = L))) ∨ (ntB L t = true ∧ okL L = true ∧ okL (ntL L t) = true ∧ (ntL L t).length = L.length + 1 ∧ IsSame L (ntL L t) L.length) := by
  cases h : okL L with
  | false => exact .inl ⟨(nt_no h).2, .inl ⟨rfl, (nt_no h).1⟩⟩
  | true =>
    by_cases hb : 100 < t.size ∨ L.length = 300
    · exact .inl ⟨(nt_as h hb).2, .inr ⟨rfl, (nt_as h hb).1⟩⟩
    · have hlog := of_okL h
      have e := (nt_on h hb).1
      refine .inr ⟨(nt_on h hb).2, rfl, ?_, ?_, ?_⟩
      · rw [e]; exact okL_true (log_more hlog (by have := hlog.1; omega) (by omega))
      · rw [e]; simp
      · rw [e]
        exact ⟨Nat.le_refl _, by simp, fun j hj => (lat_append_left hj).symm, fun hj => by omega⟩
theorem cell1 {W wA : World} {p : Addr} {v : Value} (k : Below W.heap.size W wA) (h : W.cell? p = some v) : wA.cell? p = some v := by
  rw [k.cell (World.block_lt_of_cell? W p h)]; exact h
theorem wrapI (x : Int) (h0 : -9223372036854775808 ≤ x) (h1 : x ≤ 9223372036854775807) : IntKind.i64.wrap x = x := by rw [IntKind.wrap_i64]; omega
theorem wrapB (X : Nat) (h : X < 256) : IntKind.u8.wrap (X : Int) = (X : Int) := by
  show (X : Int) % 256 = _
  omega
theorem bt_drew {w : World} {g : Nat} {l : List UInt8} (h : Bt w g l) : Bt w.drew g l := ⟨h.lt, h.cell, h.free⟩
theorem new_byte {l : List UInt8} {k z j X : Nat} (hk : k < l.length) (hz : l[k].toNat = z) (hj : j < 250) (hX : X = (z + 1 + j) % 256) : l[k] ≠ UInt8.ofNat X ∧ (UInt8.ofNat X).toNat = X := by
  have hz2 : z < 256 := by rw [← hz]; exact UInt8.toNat_lt _
  have h2 : (UInt8.ofNat X).toNat = X := by simp; omega
  refine ⟨fun e => ?_, h2⟩
  rw [e, h2] at hz
  omega
theorem text_list (s : ByteArray) : ∃ l : List UInt8, s = ⟨l.toArray⟩ := ⟨s.data.toList, by simp⟩
set_option maxRecDepth 100000 in
set_option maxHeartbeats 16000000 in

theorem walk (a0 : Option Addr) (len0 cap0 : Nat) (z0 : List Int) (w : World) (w0 : IsRow .u8 w a0 len0 cap0 z0) (htab : Sg.Tab w) :
    Calls Tryd.prog 3 #[.slice a0 len0 cap0] w fun e w' => e = .returned (.bool true) ∧ Below w.heap.size w w' := by
  have HC := hidIt (code_of w0)
  have HT := hidIt htab
  clear w0 htab
  by_cases hb : 4096 < len0
  · have hb' : (4096 : Int) < (len0 : Int) := by omega
    go_enter Tryd.func3, Tryd.ntmps3
    go_wp2
    go_ret
    exact ⟨rfl, Below.refl _ _⟩
  have hb' : ¬ (4096 : Int) < (len0 : Int) := by omega
  obtain ⟨i0, hi0, hz0, hz1, hz2⟩ := info_parts infoLn
  have HI := hidIt (And.intro hi0 (And.intro hz0 (And.intro hz1 hz2)))
  clear hi0 hz0 hz1 hz2
  go_enter Tryd.func3, Tryd.ntmps3
  go_wp2_with (first | (go_at_call 8; go_in) | fail)
  refine (DrawNoted_any _ _ _ _ HC.out (by omega)).mono ?_
  rintro e w1 ⟨vl, L, t, rfl, hTm, hO1, hb1⟩
  have B1 := hidIt hb1
  have ci := fun a c w h h1 h2 h3 t' => impl_Noted a c L t w h h1 h2 h3 t'
  have cn := fun a c w h hn => spec_Noted a c L t w h hn
  have ck := fun a c w h hc t => impl_LogOk a c L w h hc t
  have ck2 := fun a c w h => spec_LogOk a c L w h
  have ch := fun a c w h hc t => impl_Head a c L w h hc t
  have ch2 := fun a c w h => spec_Head a c L w h
  have hF := nt_facts L t
  have hll := hTm.1
  generalize hM : ntL L t = M at ci cn hF
  generalize ntB L t = bb at ci cn hF
  obtain ⟨ob, hob⟩ : ∃ ob, okL L = ob := ⟨_, rfl⟩
  rw [hob] at ck ck2 hF
  generalize hdL L = hv at ch ch2
  obtain ⟨nl, hnl⟩ : ∃ nl, L.length = nl := ⟨_, rfl⟩
  rw [hnl] at ci cn ck ck2 ch ch2 hF hll
  obtain ⟨ml, hml⟩ : ∃ ml, M.length = ml := ⟨_, rfl⟩
  have hmm : ml ≤ 300 := by rw [← hml, ← hM]; exact ntL_len
  have CI := hidIt ci
  have CN := hidIt cn
  have CK := hidIt ck
  have CK2 := hidIt ck2
  have CH := hidIt ch
  have CH2 := hidIt ch2
  have HF := hidIt hF
  have HNL := hidIt hnl
  have HML := hidIt hml
  have HOB := hidIt hob
  clear ci cn ck ck2 ch ch2 hF hM hTm hb1 hob
  obtain ⟨xl, cl, rfl, fl1, fl2, _, fl3, _⟩ := formN hO1 hnl
  have OL1 := hidIt hO1
  have RL := hidIt (fun w b (h : Own w b (.slice xl nl cl) L) => show Rd w xl L by obtain ⟨a, c, e, _, _, r, _⟩ := formN h HNL.out; cases e; exact r)
  have FL3 := hidIt fl3
  clear hO1 hnl hml fl3
  have hbb : (bb != bb) = false := by simp
  have hoo : (ob != ob) = false := by simp
  have hvv : (hv != hv) = false := by simp
  go_wp2_with (fail)
  refine (CI.out xl cl _ (RL.out _ _ OL1.out) fl1 fl2 FL3.out (HT.out.kept B1.out)).mono ?_
  rintro e w2 ⟨vx, rfl, hO2, hb2⟩
  have B2 := hidIt (B1.out.trans (hb2.mono B1.out.size))
  have OL2 := hidIt (OL1.out.kept hb2)
  obtain ⟨xx, cx, rfl, fx1, fx2, _, fx3, fx4⟩ := formN hO2 HML.out
  have OX2 := hidIt hO2
  have RX := hidIt (fun w b (h : Own w b (.slice xx ml cx) M) => show Rd w xx M by obtain ⟨a, c, e, _, _, r, _⟩ := formN h HML.out; cases e; exact r)
  have FX3 := hidIt fx3
  have FX4 := hidIt (fun x hx => (fx4 x hx).imp fun g h => h.1)
  clear hb2 hO2 OL1 fx3 fx4
  go_wp2_with (fail)
  refine (DrawSame_any _ _ _ _ (code_up (code_at HC.out B2.out) B2.out.size) (by omega)).mono ?_
  rintro e w3 ⟨va, vb, A, C, rfl, hA3, hC3, hb3⟩
  have B3 := hidIt (B2.out.trans (hb3.mono B2.out.size))
  have OL3 := hidIt (OL2.out.kept hb3)
  have OX3 := hidIt (OX2.out.kept hb3)
  obtain ⟨n, hn⟩ := sameIs_ex A C
  have cs1 := fun a b ca cb w ha hb h1 h2 ht => impl_Same_any a b ca cb A C n w ha hb h1 h2 hn ht
  have cs2 := fun a b ca cb w ha hb => spec_Same_any a b ca cb A C n w ha hb hn
  obtain ⟨la, hla⟩ : ∃ la, A.length = la := ⟨_, rfl⟩
  obtain ⟨lc, hlc⟩ : ∃ lc, C.length = lc := ⟨_, rfl⟩
  rw [hla, hlc] at cs1 cs2
  have CS1 := hidIt cs1
  have CS2 := hidIt cs2
  have HLA := hidIt hla
  have HLC := hidIt hlc
  have HSN := hidIt hn
  obtain ⟨xa, ca, rfl, fa1, fa2, RA3, _⟩ := formN hA3 hla
  obtain ⟨xc, cc, rfl, fc1, fc2, RC3, _⟩ := formN hC3 hlc
  have RA := hidIt RA3
  have RC := hidIt RC3
  clear hb3 OL2 OX2 hA3 hC3 cs1 cs2 hn hla hlc RA3 RC3
  have hnn : (n != n) = false := by simp
  go_wp2_with (fail)
  refine (CS1.out xa xc ca cc _ RA.out RC.out fa1 fc1 (HT.out.kept B3.out)).mono ?_
  rintro e w4 ⟨rfl, hb4⟩
  have B4 := hidIt (B3.out.trans (hb4.mono B3.out.size))
  have OL4 := hidIt (OL3.out.kept hb4)
  have OX4 := hidIt (OX3.out.kept hb4)
  have RA4 := hidIt (RA.out.kept hb4)
  have RC4 := hidIt (RC.out.kept hb4)
  clear hb4 OL3 OX3 RA RC
  go_wp2_with (fail)
  refine (CN.out xl cl _ (RL.out _ _ OL4.out) FL3.out).mono ?_
  rintro e w5 ⟨vy, rfl, hO5, hb5⟩
  have B5 := hidIt (B4.out.trans (hb5.mono B4.out.size))
  have OL5 := hidIt (OL4.out.kept hb5)
  have OX5 := hidIt (OX4.out.kept hb5)
  have RA5 := hidIt (RA4.out.kept hb5)
  have RC5 := hidIt (RC4.out.kept hb5)
  obtain ⟨xy, cy, rfl, _, _, RY5, _⟩ := formN hO5 HML.out
  have RY := hidIt RY5
  clear hb5 OL4 OX4 RA4 RC4 hO5 RY5
  go_wp2_with (fail)
  refine (likeLog_any xx xy cx cy ml M _ (RX.out _ _ OX5.out) RY.out HML.out (by omega)).mono ?_
  rintro e w6 ⟨rfl, m6, rfl⟩
  have B6 := hidIt (B5.out.trans ((belowN m6).mono B5.out.size))
  have OL6 := hidIt (OL5.out.kept (belowN m6))
  have OX6 := hidIt (OX5.out.kept (belowN m6))
  have RA6 := hidIt (RA5.out.kept (belowN m6))
  have RC6 := hidIt (RC5.out.kept (belowN m6))
  clear OL5 OX5 RA5 RC5 RY
  generalize w5.drewN m6 = w6 at B6 OL6 OX6 RA6 RC6 ⊢
  go_wp2_with (fail)
  refine (CK.out xl cl _ (RL.out _ _ OL6.out) fl1 (HT.out.kept B6.out)).mono ?_
  rintro e w7 ⟨rfl, hb7⟩
  have B7 := hidIt (B6.out.trans (hb7.mono B6.out.size))
  have OL7 := hidIt (OL6.out.kept hb7)
  have OX7 := hidIt (OX6.out.kept hb7)
  have RA7 := hidIt (RA6.out.kept hb7)
  have RC7 := hidIt (RC6.out.kept hb7)
  clear hb7 OL6 OX6 RA6 RC6
  go_wp2_with (fail)
  refine (CK2.out xl cl _ (RL.out _ _ OL7.out)).mono ?_
  rintro e w8 ⟨rfl, hb8⟩
  have B8 := hidIt (B7.out.trans (hb8.mono B7.out.size))
  have OL8 := hidIt (OL7.out.kept hb8)
  have OX8 := hidIt (OX7.out.kept hb8)
  have RA8 := hidIt (RA7.out.kept hb8)
  have RC8 := hidIt (RC7.out.kept hb8)
  clear hb8 OL7 OX7 RA7 RC7
  go_wp2_with (fail)
  refine (CH.out xl cl _ (RL.out _ _ OL8.out) fl1 (HT.out.kept B8.out)).mono ?_
  rintro e w9 ⟨rfl, hb9⟩
  have B9 := hidIt (B8.out.trans (hb9.mono B8.out.size))
  have OL9 := hidIt (OL8.out.kept hb9)
  have OX9 := hidIt (OX8.out.kept hb9)
  have RA9 := hidIt (RA8.out.kept hb9)
  have RC9 := hidIt (RC8.out.kept hb9)
  clear hb9 OL8 OX8 RA8 RC8
  go_wp2_with (fail)
  refine (CH2.out xl cl _ (RL.out _ _ OL9.out)).mono ?_
  rintro e w10 ⟨rfl, hb10⟩
  have B10 := hidIt (B9.out.trans (hb10.mono B9.out.size))
  have OL10 := hidIt (OL9.out.kept hb10)
  have OX10 := hidIt (OX9.out.kept hb10)
  have RA10 := hidIt (RA9.out.kept hb10)
  have RC10 := hidIt (RC9.out.kept hb10)
  clear hb10 OL9 OX9 RA9 RC9
  go_wp2_with (fail)
  refine (CS2.out xa xc ca cc _ RA10.out RC10.out).mono ?_
  rintro e w11 ⟨rfl, hb11⟩
  have B11 := hidIt (B10.out.trans (hb11.mono B10.out.size))
  have OL11 := hidIt (OL10.out.kept hb11)
  have OX11 := hidIt (OX10.out.kept hb11)
  have RA11 := hidIt (RA10.out.kept hb11)
  have RC11 := hidIt (RC10.out.kept hb11)
  clear hb11 OL10 OX10 RA10 RC10
  clear CI CN CK CH CH2 CS1 CS2 B1 B2 B3 B4 B5 B6 B7 B8 B9 B10
  go_wp2_with (fail)
  go_cut [107] from 16 to 193 (fun s107 wx => s107 = .bool false ∧ ∃ m, wx = w11.drewN m)
  case first =>
    rcases HSN.out with ⟨_, rfl⟩ | ⟨hA1, _, k, rfl, hk⟩
    · go_quiet (fail)
      go_wp2_with (fail)
      go_meet
      case rel => exact ⟨rfl, _, rfl⟩
    · have ek : A.take k = C.take k := ext_lat (by rw [List.length_take, List.length_take]; have := hk.1; have := hk.2.1; omega) (fun j hj => by
        rw [List.length_take] at hj
        rw [lat_take (by omega), lat_take (by omega)]
        exact hk.2.2.1 j (by omega))
      have z0 := (of_okL hA1).1
      rw [HLA.out] at z0
      clear hA1
      have z1 : k ≤ la := by have := hk.1; rwa [HLA.out] at this
      have z2 : k ≤ lc := by have := hk.2.1; rwa [HLC.out] at this
      have HLk := hidIt (fun m => likeLog_any xa xc ca cc k (A.take k) (w11.drewN m) (rdN (RA11.out.take k) m) (rdN (by rw [ek]; exact RC11.out.take k) m) (by rw [List.length_take, HLA.out]; omega) (by omega))
      have y0 : (0 : Int) ≤ (k : Int) := by omega
      have y1 : (k : Int) ≤ (ca : Int) := by omega
      have y2 : (k : Int) ≤ (cc : Int) := by omega
      have HK := hidIt hk
      clear ek hk
      by_cases h1 : k < la
      · have u1 : (k : Int) < (la : Int) := by omega
        by_cases h2 : k < lc
        · have u2 : (k : Int) < (lc : Int) := by omega
          obtain ⟨b1, o1, rfl, c0, c1⟩ := RA11.out.cell k (by rw [HLA.out]; omega)
          obtain ⟨b2, o2, rfl, d0, d1⟩ := RC11.out.cell k (by rw [HLC.out]; omega)
          have hne := HK.out.2.2.2 (by rw [HLA.out]; omega) (by rw [HLC.out]; omega)
          generalize lat A k = x at c0 c1 hne
          generalize lat C k = y at d0 d1 hne
          obtain ⟨s, q⟩ := x
          obtain ⟨s', q'⟩ := y
          rcases ln_cases (s, q) (s', q') with e | e | ⟨e, e2⟩
          · exact absurd e hne
          · simp only at e
            clear hne
            go_quiet (first | (go_at_call 14; exact Calls.quiet_of (HLk.out _)))
            go_wp2_with (fail)
            go_meet
            case rel => exact ⟨rfl, _, rfl⟩
          · simp only at e e2
            subst e
            clear hne
            go_quiet (first | (go_at_call 14; exact Calls.quiet_of (HLk.out _)))
            go_wp2_with (fail)
            go_meet
            case rel => exact ⟨rfl, _, rfl⟩
        · have u2 : decide ((k : Int) < (lc : Int)) = false := by simp; omega
          have u3 : decide (k < lc) = false := by simp; omega
          go_quiet (first | (go_at_call 14; exact Calls.quiet_of (HLk.out _)))
          go_wp2_with (fail)
          go_meet
          case rel => exact ⟨rfl, _, rfl⟩
      · have u1 : decide ((k : Int) < (la : Int)) = false := by simp; omega
        have u3 : decide (k < la) = false := by simp; omega
        go_quiet (first | (go_at_call 14; exact Calls.quiet_of (HLk.out _)))
        go_wp2_with (fail)
        go_meet
        case rel => exact ⟨rfl, _, rfl⟩
  case rest =>
    obtain ⟨rfl, m12, rfl⟩ := hcut
    clear HSN RA11 RC11 HLA HLC
    have B12 := hidIt (B11.out.trans ((belowN m12).mono B11.out.size))
    have OL12 := hidIt (OL11.out.kept (belowN m12))
    have OX12 := hidIt (OX11.out.kept (belowN m12))
    clear OL11 OX11 B11
    generalize w11.drewN m12 = w12 at B12 OL12 OX12 ⊢
    rcases HF.out with ⟨rfl, hq⟩ | ⟨rfl, hq1, hq2, hq3, hq4⟩
    · rcases hq with ⟨rfl, hMn⟩ | ⟨rfl, hMn⟩
      · have hml0 : ml = 0 := by rw [← HML.out, hMn]; rfl
        subst hml0
        go_wp2_with (fail)
        refine (CK2.out xl cl _ (RL.out _ _ OL12.out)).mono ?_
        rintro e w13 ⟨rfl, hb13⟩
        have B13 := hidIt (B12.out.trans (hb13.mono B12.out.size))
        clear hb13
        go_wp2_with (fail)
        go_ret
        exact ⟨rfl, B13.out⟩
      · have hml0 : ml = nl := by rw [← HML.out, hMn]; exact HNL.out
        subst hml0
        go_wp2_with (fail)
        refine (CK2.out xl cl _ (RL.out _ _ OL12.out)).mono ?_
        rintro e w13 ⟨rfl, hb13⟩
        have B13 := hidIt (B12.out.trans (hb13.mono B12.out.size))
        have OL13 := hidIt (OL12.out.kept hb13)
        have OX13 := hidIt (OX12.out.kept hb13)
        clear hb13
        have HMn := hidIt hMn
        clear hMn
        go_wp2_with (fail)
        refine (likeLog_any xx xl cx cl ml L _ (by have := RX.out _ _ OX13.out; rwa [HMn.out] at this) (RL.out _ _ OL13.out) HNL.out (by omega)).mono ?_
        rintro e w14 ⟨rfl, m14, rfl⟩
        have B14 := hidIt (B13.out.trans ((belowN m14).mono B13.out.size))
        go_wp2_with (fail)
        go_ret
        exact ⟨rfl, B14.out⟩
    · have hml1 : ml = nl + 1 := by rw [← HML.out]; exact hq3
      subst hml1
      subst hq1
      have hMlog := of_okL hq2
      obtain ⟨bq, oq, e0, _⟩ := (RX.out _ _ OX12.out).cell 0 (by rw [HML.out]; omega)
      obtain ⟨gx, e1⟩ := FX4.out _ e0
      subst e0
      cases e1
      have cm := fun w h t => impl_LogOk (some ⟨bq, 0, none⟩) cx M w h (by rw [HML.out]; exact fx1) t
      have chm := fun w h t => impl_Head (some ⟨bq, 0, none⟩) cx M w h (by rw [HML.out]; exact fx1) t
      have csm := fun w h1 h2 t => impl_Same_yes xl (some ⟨bq, 0, none⟩) cl cx L M nl w h1 h2 (by rw [HNL.out]; exact fl1) (by rw [HML.out]; exact fx1) HOB.out hq2 hq4 t
      rw [hq2, HML.out] at cm
      rw [hdL_ok hq2, HML.out, headL_len HML.out] at chm
      rw [HNL.out, HML.out] at csm
      have hlast := (OX12.out.at (i := nl) (by rw [HML.out]; omega)).2.1
      generalize (lat M nl).2 = q0 at chm hlast
      have CM := hidIt cm
      have CHM := hidIt chm
      have CSM := hidIt csm
      have HMlog := hidIt hMlog
      clear cm chm csm hq2 hq3 hq4 hMlog HF HOB CK2 fx2
      have hqq : (q0 != q0) = false := by simp
      have hnll : ((nl : Int) != (nl : Int)) = false := by simp
      have OXd : Hid (Own w12.drew w1.heap.size (.slice (some ⟨bq, 0, none⟩) (nl + 1) cx) M) := hidIt (OX12.out.kept ((Below.refl _ _).drew))
      have OLd : Hid (Own w12.drew w.heap.size (.slice xl nl cl) L) := hidIt (OL12.out.kept ((Below.refl _ _).drew))
      have Td : Hid (Tab w12.drew) := hidIt (HT.out.kept B12.out.drew)
      have hlast' := hlast
      have e1 : IntKind.i64.wrap ((nl : Int)) = (nl : Int) := by rw [IntKind.wrap_i64]; omega
      have e2 : IntKind.i64.wrap ((nl : Int) + 1 - 1) = (nl : Int) := by rw [IntKind.wrap_i64]; omega
      have e3 : IntKind.i64.wrap (((nl + 1 : Nat) : Int) - 1) = (nl : Int) := by rw [IntKind.wrap_i64]; omega
      have y0 : (0 : Int) ≤ (nl : Int) := by omega
      have y1 : (nl : Int) < (nl : Int) + 1 := by omega
      have y2 : (nl : Int) < ((nl + 1 : Nat) : Int) := by omega
      go_wp2_with (fail)
      go_region_held3 (fun w' => w'.cell? ⟨bq, nl * 2 + 1, none⟩ = some (.int .i64 q0))
        (first | assumption | exact hlast | exact cell1 (W := w12.drew) hbA hlast | exact cell1 hbB (by assumption) | exact cell1 hbC (by assumption) | go_keep)
        (first
          | (go_at_call 15; refine (CM.out _ (RX.out _ _ OXd.out) Td.out).mono ?_; rintro e wA ⟨rfl, hbA⟩; have oxA := hidIt (OXd.out.kept hbA); have olA := hidIt (OLd.out.kept hbA); have tA := hidIt (Td.out.kept hbA))
          | (go_at_call 17; refine (CHM.out _ (RX.out _ _ oxA.out) tA.out).mono ?_; rintro e wB ⟨rfl, hbB⟩; have oxB := hidIt (oxA.out.kept hbB); have olB := hidIt (olA.out.kept hbB); have tB := hidIt (tA.out.kept hbB))
          | (go_at_call 12; refine (CSM.out _ (RL.out _ _ olB.out) (RX.out _ _ oxB.out) tB.out).mono ?_; rintro e wC ⟨rfl, hbC⟩))
      have BA := B12.out.drew.trans (hbA.mono (by have := B12.out.size; simpa using this))
      have BB := BA.trans (hbB.mono BA.size)
      have BC := hidIt (BB.trans (hbC.mono BB.size))
      have OXC := hidIt (oxB.out.kept hbC)
      clear hbA hbB hbC BA BB oxA oxB olA olB tA tB OXd OLd Td OX12 OL12 B12 CM CHM CSM hlast hlast'
      clear e1 e2 e3 y0 y1 y2
      have hl0 : len0 ≤ 4096 := by omega
      have hp1 : (0 : Int) < (nl : Int) + 1 := by omega
      go_wp2_with (fail)
      refine (Dr.pick_any w.heap.size a0 len0 cap0 1 _ _ (code_at HC.out BC.out) hl0 (by decide) (by decide) hp1).mono ?_
      rintro e w14 ⟨xi, x0, x1, rfl, rfl⟩
      obtain ⟨i, rfl⟩ := Int.eq_ofNat_of_zero_le x0
      have hiM : i < M.length := by rw [HML.out]; omega
      have t0 := (OXC.out.at hiM).1
      obtain ⟨l, hl⟩ := text_list (lat M i).1
      rw [hl] at t0
      have HLt := hidIt hl
      have HiM := hidIt hiM
      obtain ⟨wS, cS, hrun, bS, tS⟩ := bytes_new w14 l
      obtain ⟨ll, hll⟩ : ∃ ll, l.length = ll := ⟨_, rfl⟩
      rw [hll] at hrun
      have HLL := hidIt hll
      have BS := hidIt (BC.out.trans (bS.mono BC.out.size))
      have OXS := hidIt (OXC.out.kept bS)
      have TS := hidIt tS
      have zS := hidIt tS.lt
      have zC := hidIt BC.out.size
      clear hl hiM bS tS hll
      by_cases hle : ll = 0
      · have hle' : ((ll : Int) == 0) = true := by simp; omega
        clear hle
        go_wp2_with (fail)
        go_ret
        exact ⟨rfl, BS.out⟩
      · have hle' : ((ll : Int) == 0) = false := by simp; omega
        have hp2 : (0 : Int) < (ll : Int) := by omega
        clear hle
        go_wp2_with (fail)
        refine (Dr.pick_any w.heap.size a0 len0 cap0 2 _ _ (code_at HC.out BS.out) hl0 (by decide) (by decide) hp2).mono ?_
        rintro e w15 ⟨xk, k0, k1, rfl, rfl⟩
        obtain ⟨k, rfl⟩ := Int.eq_ofNat_of_zero_le k0
        have HK : Hid (k < l.length) := hidIt (by rw [HLL.out]; omega)
        have ck := TS.out.cell k HK.out
        have fk := TS.out.free k HK.out
        obtain ⟨z, hz⟩ : ∃ z : Nat, (l[k]'HK.out).toNat = z := ⟨_, rfl⟩
        rw [hz] at ck
        have hz2 : z < 256 := by rw [← hz]; exact UInt8.toNat_lt _
        have HZ := hidIt hz
        have e1 : IntKind.i64.wrap ((z : Int) + 1) = (z : Int) + 1 := wrapI _ (by omega) (by omega)
        have e0 : IntKind.i64.wrap (z : Int) = (z : Int) := wrapI _ (by omega) (by omega)
        have HCd := hidIt (show Dr.Code w.heap.size w15.drew a0 len0 from code_at HC.out BS.out.drew)
        clear hz hrun t0
        go_wp2_with (fail)
        go_cut [] from 16 to 193 (fun wx => ∃ y : UInt8, Hid (l[k]'HK.out ≠ y) ∧ Bt wx w14.heap.size (l.set k y) ∧ Only w14.heap.size w15 wx)
        case first =>
          go_region_with (first | (go_at_call 20; refine (Dr.pick_any _ _ _ _ _ _ _ HCd.out hl0 (by decide) (by decide) (by decide)).mono ?_; rintro e wp ⟨jj, jj0, jj1, rfl, rfl⟩; obtain ⟨jn, rfl⟩ := Int.eq_ofNat_of_zero_le jj0; have e2 : IntKind.i64.wrap ((z : Int) + 1 + (jn : Int)) = (z : Int) + 1 + (jn : Int) := wrapI _ (by omega) (by omega); obtain ⟨X, hX⟩ : ∃ X : Nat, X = (z + 1 + jn) % 256 := ⟨_, rfl⟩; have e3 : ((z : Int) + 1 + (jn : Int)).tmod 256 = (X : Int) := (by rw [Int.tmod_eq_emod_of_nonneg (by omega), hX]; omega); have e4 : ((z : Int) + 1 + (jn : Int)) % 256 = (X : Int) := (by rw [hX]; omega); have e5 : IntKind.i64.wrap (X : Int) = (X : Int) := wrapI _ (by omega) (by omega); have e6 := wrapB X (by omega); have HX := hidIt hX; clear hX))
          all_goals
            go_wp2_with fail
            go_meet
            have hnb := new_byte HK.out HZ.out (by omega) HX.out
            have hst := TS.out.set HK.out (UInt8.ofNat X)
            rw [hnb.2] at hst
            first
              | exact ⟨_, hidIt hnb.1, bt_drew hst, ((Only.refl _ _).setCell _ _).drew⟩
              | exact ⟨_, hidIt hnb.1, hst, (Only.refl _ _).setCell _ _⟩
        case rest =>
          obtain ⟨y, hy, hTD, hYD⟩ := hcut
          have BQ : bq < w14.heap.size := (World.ownsRow.lt OXC.out bq rfl).2
          have BD := hidIt (BS.out.trans (hYD.below (B := w.heap.size) zC.out BS.out.size))
          have OXD := hidIt (OXS.out.only hYD (.inr fun g hg => by simp [Value.ownBlock] at hg; omega))
          have TD := hidIt hTD
          have Hy := hidIt hy.out
          clear hYD hTD ck fk e0 e1 HCd OXS OXC BS TS hy
          go_wp2_with (first
            | (at_builtin; refine wpList_append_own _ rfl _ _ 24 rfl wc.heap.size 36 i0 (.agg #[.string ByteArray.empty, .int .i64 0]) 2 24 Tryd.underlying24 HI.out.1 HI.out.2.1 HI.out.2.2.1 HI.out.2.2.2 rfl (by decide) _ _ _ rfl (Own.new wc) ⟨bq, 0, none⟩ (nl + 1) cx (lcells M) rfl (by rw [lcells_length, HML.out]) (((RX.out _ _ OXD.out).alloc _).cells) (lcells_one M) (by unfold maxLen; simp; omega) (by simp; omega) (by simp) ?_)
            | fail)
          intro v' w16 hown hgrow _
          have hO16 : Own w16 wc.heap.size v' M := by unfold Own; rw [lcells_nil, List.nil_append] at hown; rw [HML.out]; simpa using hown
          have b16 : Below wc.heap.size wc w16 := ((Below.refl wc.heap.size wc).alloc (Nat.le_refl _) _).grown hgrow (by simp) (fun k hk => by simp [Value.ownBlock] at hk; omega)
          have T16 := TD.out.kept b16
          obtain ⟨ay, cy', rfl, fy1, _, RY16, _, fy4⟩ := formN hO16 HML.out
          obtain ⟨b9, o9, e9, _⟩ := RY16.cell 0 (by rw [HML.out]; omega)
          obtain ⟨gy, e8, hg8, _⟩ := fy4 _ e9
          subst e9
          cases e8
          obtain ⟨c0, _, f0, _⟩ := hO16.at HiM.out
          have hback := T16.back (cap := cS) (n := ll) (by rw [List.length_set]; exact HLL.out)
          have hno := log_one HMlog.out HiM.out HLt.out HK.out Hy.out
          have S16 := hO16.text HiM.out ⟨(l.set k y).toArray⟩
          generalize (⟨(l.set k y).toArray⟩ : ByteArray) = st at hback hno S16
          have hNl : (M.set i (st, (lat M i).2)).length = nl + 1 := by rw [List.length_set]; exact HML.out
          generalize M.set i (st, (lat M i).2) = N at hno S16 hNl
          have ckN := fun w h t => impl_LogOk (some ⟨b9, 0, none⟩) cy' N w h (by rw [hNl]; exact fy1) t
          have chN := fun w h t => impl_Head (some ⟨b9, 0, none⟩) cy' N w h (by rw [hNl]; exact fy1) t
          rw [hno, hNl] at ckN
          rw [hdL_no hno, hNl] at chN
          have CKN := hidIt ckN
          have CHN := hidIt chN
          have HS16 := hidIt S16
          have HNl := hidIt hNl
          have B16 := hidIt ((BD.out.trans (b16.mono BD.out.size)).setCell (show w.heap.size ≤ (⟨b9, i * 2, none⟩ : Addr).block from Nat.le_trans BD.out.size hg8) (.string st))
          clear ckN chN S16 hNl hown hgrow hO16 b16 T16 RY16 fy4 hno TD OXD BD
          go_wp2_with (fail)
          have RN : Rd (w16.setCell ⟨b9, i * 2, none⟩ (.string st)) (some ⟨b9, 0, none⟩) N := by
            obtain ⟨a', c', e', _, _, r, _⟩ := formN HS16.out HNl.out
            cases e'
            exact r
          refine (CKN.out _ RN (HT.out.kept B16.out)).mono ?_
          rintro e w17 ⟨rfl, hb17⟩
          have B17 := hidIt (B16.out.trans (hb17.mono B16.out.size))
          have RN17 := hidIt (RN.kept hb17)
          clear hb17 RN
          go_wp2_with (fail)
          refine (CHN.out _ RN17.out (HT.out.kept B17.out)).mono ?_
          rintro e w18 ⟨rfl, hb18⟩
          have B18 := hidIt (B17.out.trans (hb18.mono B17.out.size))
          clear hb18
          go_wp2_with (fail)
          go_ret
          exact ⟨rfl, B18.out⟩

theorem door_met (os : Os) (args : Array Value) : laidMetH Tryd.prog Rows.fnLogsRow.laid ((World.doorLaid Tryd.prog 24 os).forCall (fun _ _ => 0) ⟨#[], args, []⟩).memory :=
  laidMetH_of_parts3 (fuel := 8) (laidMet_of_run' 8 (by kernel_rfl) (by kernel_rfl)) (by kernel_rfl) (by kernel_rfl)
set_option maxRecDepth 100000 in
theorem lifted (os : Os) (started : os.Started) (H : Type) (enc : TypeId × Value → H) :
    ReturnsInHanded {} Tryd.checked os 3 .any (fun w args => (Rows.fnLogsSpec.pre enc Tryd.prog Tryd.f3 [] false w args ∧ laidMetH Tryd.prog Rows.fnLogsRow.laid w) ∧ sizedMet enc Tryd.prog Tryd.f3 (OpenSpec.ofChange Rows.fnLogsSpec) false w args) (Rows.fnLogsSpec.post enc Tryd.prog Tryd.f3 false true false false) := by
  refine returnsInHanded_of_change_and (C := Tryd.checked) (X := fun w _ => laidMetH Tryd.prog Rows.fnLogsRow.laid w) (fun _ _ _ hh h => h.of_heap hh) own started (by kernel_rfl) Tryd.func3
    (ChangeSpec.witness_shaped (enc := enc) (C := Tryd.checked) (os := os) (X := fun w _ => laidMetH Tryd.prog Rows.fnLogsRow.laid w) false (World.doorLaid Tryd.prog 24 os) #[.slice none 0 0] 8 rfl (World.shaped_of_RefB (by kernel_rfl) (by kernel_rfl)) (by kernel_rfl) (by kernel_rfl) (by kernel_rfl) (door_met os _)) ?_
  intro W base args ds gs before hval0 hW _ _ hL _
  have hval : ∀ (j : Nat) t v, Tryd.f3.params[j]? = some t → args[j]? = some v → Value.okWide Tryd.prog W .any base t v := hval0
  have hW' := hW
  obtain ⟨p, q, hA0, hV, rfl, hfz, hnd⟩ := hW
  have hA : DataW.TrodAll enc Tryd.prog W 0 (fun _ => true) true Tryd.f3.params.toList args.toList ds p := hA0
  rw [Tryd.params3] at hA hval
  obtain ⟨v0, vs0, d0, ds0, p0, q0, hargs, rfl, rfl, h0, r0⟩ := trodAll_cons hA
  obtain ⟨rfl, rfl, rfl⟩ := trodAll_nil r0
  obtain rfl : args = #[v0] := by cases args; simp_all
  obtain ⟨rfl, rfl⟩ := trodVars_none hV
  have k0 := h0
  have lt0 : ∀ x ∈ p0, x.block < W.heap.size := by obtain ⟨m, hm⟩ := k0; exact DataW.trod_lt m _ _ _ hm
  obtain ⟨a0, len0, cap0, rfl⟩ := okWide_slice Tryd.underlying22 (hval 0 22 v0 rfl rfl)
  obtain ⟨z0, w0⟩ : ∃ zs, IsRow .u8 W a0 len0 cap0 zs := by
    obtain ⟨fuel, hf⟩ := h0
    rcases open_ints Tryd.underlying22 Tryd.underlying5 (by kernel_rfl) hf with ⟨hcs, _⟩ | ⟨x, l, c, zs, hcs, _, hl, hm, hz, _, hcell, hwz⟩
    · simp [Value.cells] at hcs
      obtain ⟨rfl, rfl, rfl⟩ := hcs
      exact ⟨[], .inl ⟨rfl, rfl, rfl, rfl⟩⟩
    · simp [Value.cells] at hcs
      obtain ⟨rfl, rfl, rfl⟩ := hcs
      exact ⟨zs, .inr ⟨_, rfl, hl, hm, by simpa using hz, hcell, hwz⟩⟩
  clear hA0 hval0
  refine (walk a0 len0 cap0 z0 W w0 (Sg.tab_of_laid hL)).mono fun e W' ⟨he, bel⟩ => ?_
  subst he
  exact ⟨_, rfl, _, _, _, [], _, [], hW', trodAll_mk1 (shut_bool Tryd.underlying4 _), (trodAll_cons_mk (Below.trod laidOut (by kernel_rfl) (of_decide_eq_true (by kernel_rfl)) k0 bel lt0) trodAll_mk0), rfl, bel.frame _, fun h => by cases h⟩

theorem over : Rows.fnLogsRow.holds Tryd.pinned (OpenSpec.ofChange Rows.fnLogsSpec) :=
  OpenClaim.holds_of_wide 3 Tryd.f3 rfl rfl rfl rfl rfl rfl rfl ⟨rfl, rfl, rfl, rfl, rfl⟩ rfl rfl rfl rfl rfl (by kernel_rfl) Tryd.func3 (by kernel_rfl)
    (of_decide_eq_true (by kernel_rfl)) (by unfold Func.isWrapper; first | (rw [if_pos (by decide +kernel)]; kernel_rfl) | (rw [if_neg (by decide +kernel)]; exact ⟨rfl, rfl⟩))
    (fun os started H enc _ => lifted os started H enc)
theorem card : Rows.FnLogsCardSaid :=
  Claim7.holds_tied_plain_at .later [] [.data, .data, .data] true (true, "9ab4f1656db544c4279b8fa1b3539260fc5ef5f25e5b87d59d0970534a0d8030") false
    over (fun _ h => by cases h) (by kernel_rfl) (fun _ h => by cases h) fnLogs_row_tie rfl ⟨rfl, rfl⟩ (by kernel_rfl) rfl
    (fun f fn hf hfn => by
      obtain rfl : f = 3 := Option.some.inj ((show Tryd.prog.funcNamed "loop.example/g00307/laws.FnLogs" = some 3 by kernel_rfl).symm.trans hf) |>.symm
      obtain rfl : fn = Tryd.f3 := (Option.some.inj (Tryd.func3.symm.trans hfn)).symm
      exact ⟨by kernel_rfl, fun j t ht => by
        rw [Tryd.params3] at ht
        have hm : t ∈ [22] := by simpa using Array.mem_of_getElem? ht
        have hall : ([22].all fun u => !Tryd.prog.wantsStandIn u) = true := by kernel_rfl
        exact (show Tryd.prog.wantsStandIn t = false by simpa using List.all_eq_true.1 hall t hm)⟩)
    (by kernel_rfl)
end Go.Proofs.YtoijollhmchalaaDoor.fnLogs
namespace Go.Proofs.YtoijollhmchalaaDoor
theorem fnLogs_holds : Rows.FnLogsCardSaid := fnLogs.card
#print axioms fnLogs_holds
end Go.Proofs.YtoijollhmchalaaDoor
