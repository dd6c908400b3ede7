/-
  FnSealed answers true at every slice of bytes and leaves it as it was: what is sealed holds till its time, and of another text just where both have one challenge. No condition but that the library's table of powers of ten and the program's four errors lie as their text lays them.
-/
import Derived.Test.YtciikondckoboaaDoorRows
import Derived.Test.YtciikondckoboaaDoorBun5
import Derived.WalkKit
import Derived.ProofKit
import Derived.OpenShut
import Derived.ShutString
import Derived.ChangeOld
import Derived.Below
import Derived.Lib.SmallJoins
import Derived.Test.YtciikondckoboaaDoorDoorMet
import Derived.Test.YtciikondckoboaaDoorTie
import Derived.Test.YtciikondckoboaaDoorCards
import Derived.LaidMore
import Derived.Stop.Joined
import Derived.SevenTiedAt
import Derived.Test.YtciikondckoboaaDoorBun4
import Derived.Test.YtciikondckoboaaDoorBun3
import Derived.Laws.StructEq
namespace Go.Proofs.YtciikondckoboaaDoor.fnSealed
open Go.ChangeShapes Go.WideShapes Go.ChangeAt Go.RowKit Go.Joins
set_option linter.unusedVariables false

theorem own : ownKnob Tryd.prog.godebug = none := by kernel_rfl
theorem laidOut : laidOutB Tryd.prog = true := by kernel_rfl
/-- A row of integers that came in: nil, or cells at an address. -/
def IsRow (k : IntKind) (w : World) (a : Option Addr) (len cap : Nat) (zs : List Int) : Prop :=
  (a = none ∧ len = 0 ∧ cap = 0 ∧ zs = []) ∨
  ∃ x, a = some x ∧ len ≤ cap ∧ cap ≤ maxLen ∧ zs.length = cap ∧ (∀ i, i < zs.length → w.cell? (x.add i) = some (.int k (zs.getD i 0))) ∧ ∀ n ∈ zs, (Lit.int k n).wf = true
theorem g_errNone : Tryd.prog.globalNamed "loop.example/g00307/impl.errNone" = some 0 := by kernel_rfl
theorem t_errNone : (Tryd.prog.globals[0]?).map (·.type) = some 59 := by kernel_rfl
theorem g_errMany : Tryd.prog.globalNamed "loop.example/g00307/impl.errMany" = some 3 := by kernel_rfl
theorem t_errMany : (Tryd.prog.globals[3]?).map (·.type) = some 59 := by kernel_rfl
theorem g_errOther : Tryd.prog.globalNamed "loop.example/g00307/impl.errOther" = some 2 := by kernel_rfl
theorem t_errOther : (Tryd.prog.globals[2]?).map (·.type) = some 59 := by kernel_rfl
theorem g_errOver : Tryd.prog.globalNamed "loop.example/g00307/impl.errOver" = some 1 := by kernel_rfl
theorem t_errOver : (Tryd.prog.globals[1]?).map (·.type) = some 59 := by kernel_rfl
open Cv Cu Sg Dd
open Go.Proofs.YtciikondckoboaaDoor.Bo (Box Box.new Box.newAt Box.kept Box.alloc Box.put Box.other Box.c Box.drew)
open Go.Proofs.YtciikondckoboaaDoor.Rc (BelowBy wp_region_below calls_below calls_same)
theorem code_of {w : World} {a : Option Addr} {len cap : Nat} {zs : List Int} (h : IsRow .u8 w a len cap zs) : Dr.Code w.heap.size w a len := by
  refine ⟨fun i hi => ?_⟩
  rcases h with ⟨rfl, rfl, rfl, rfl⟩ | ⟨x, rfl, hl, hm, hz, hcell, hwz⟩
  · omega
  · have hc := hcell i (by omega)
    obtain ⟨b, off, spot⟩ := x
    have h00 := hcell 0 (by omega)
    have hspot : spot = none := by simpa [Addr.add] using World.cell?_spot h00
    subst hspot
    have hc0 : w.cell? ⟨b, off + i, none⟩ = some (.int .u8 (zs.getD i 0)) := by
      by_cases e : i = 0
      · subst e; simpa [Addr.add] using hc
      · simpa [Addr.add, e] using hc
    have hw := hwz (zs.getD i 0) (by rw [List.getD_eq_getElem?_getD, List.getElem?_eq_getElem (by omega)]; simp)
    have hb : b < w.heap.size := by
      refine Decidable.byContradiction fun hn => ?_
      have hx : w.heap[b]? = none := by simp; omega
      simp [World.cell?, hx] at hc0
    have hbd := bounds_u8 hw
    exact ⟨b, off, _, rfl, hb, hc0, hbd.1, hbd.2⟩
set_option maxRecDepth 100000 in
set_option maxHeartbeats 16000000 in

theorem walk (a0 : Option Addr) (len0 cap0 : Nat) (z0 : List Int) (e_errNone e_errMany e_errOther e_errOver : Addr) (w : World) (w0 : IsRow .u8 w a0 len0 cap0 z0) (htab : Sg.Tab w) (h_errNone : Se.At w 0 e_errNone) (h_errMany : Se.At w 3 e_errMany) (h_errOther : Se.At w 2 e_errOther) (h_errOver : Se.At w 1 e_errOver) :
    Calls Tryd.prog 3 #[.slice a0 len0 cap0] w fun e w' => e = .returned (.bool true) ∧ Below w.heap.size w w' := by
  have hcode := code_of w0
  have HC := hidIt hcode
  have HT := hidIt htab
  have H1 := hidIt h_errNone
  have H2 := hidIt h_errMany
  have H3 := hidIt h_errOver
  have H4 := hidIt h_errOther
  clear hcode w0 htab h_errNone h_errMany h_errOver h_errOther
  by_cases hb : 4096 < len0
  · have hb' : (4096 : Int) < (len0 : Int) := by omega
    go_enter Tryd.func3, Tryd.ntmps3
    go_wp2
    go_ret
    exact ⟨rfl, Below.refl _ _⟩
  · have hb' : ¬ (4096 : Int) < (len0 : Int) := by omega
    go_enter Tryd.func3, Tryd.ntmps3
    go_wp2_with (first | (go_at_call 4; go_in) | fail)
    refine (DrawSealOf_any _ _ _ _ HC.out (by omega)).mono ?_
    rintro e w1 ⟨n, s, u, hs, rfl, k⟩
    have HB := hidIt k
    replace HC := hidIt (Dr.Code.kept HC.out k)
    clear k
    have CI := hidIt (fun W t => impl_SealOf n s u W t (by omega))
    have CS := hidIt (fun W => spec_SealOf n s u W (by omega))
    obtain ⟨K1, K2, U, R1, R2, T, f, er, hq⟩ := seal_cases n s u hs
    have HQ := hidIt hq
    rw [er] at CI CS
    simp only at CI CS
    clear hq er
    have hff : (f != f) = false := by simp
    go_wp2_with (fail)
    refine (CI.out _ (HT.out.kept HB.out)).mono ?_
    rintro e w2 ⟨rfl, k⟩
    replace HB := hidIt (HB.out.trans (k.mono HB.out.size))
    replace HC := hidIt (Dr.Code.kept HC.out k)
    clear k CI
    have BS := hidIt (Box.new w2 (sc K1 K2 U R1 R2 T) 31)
    have k := (Below.refl w2.heap.size w2).alloc (Nat.le_refl _) (.cells (sc K1 K2 U R1 R2 T) 31)
    replace HB := hidIt (HB.out.trans (k.mono HB.out.size))
    replace HC := hidIt (Dr.Code.kept HC.out k)
    clear k
    go_wp2_with (fail)
    refine (DrawHolds_any _ _ _ _ HC.out (by omega)).mono ?_
    rintro e w3 ⟨h1, h2, hu, h3, h4, h5, t, now, ht, rfl, k⟩
    replace HB := hidIt (HB.out.trans (k.mono HB.out.size))
    replace HC := hidIt (Dr.Code.kept HC.out k)
    replace BS := hidIt (BS.out.kept k)
    clear k
    generalize w2.heap.size = b6 at BS ⊢
    have BH := hidIt (Box.new w3 (sc h1 h2 hu h3 h4 h5) 31)
    have k := (Below.refl w3.heap.size w3).alloc (Nat.le_refl _) (.cells (sc h1 h2 hu h3 h4 h5) 31)
    replace HB := hidIt (HB.out.trans (k.mono HB.out.size))
    replace HC := hidIt (Dr.Code.kept HC.out k)
    replace BS := hidIt (BS.out.kept k)
    clear k
    go_wp2_with (fail)
    refine (DrawKeysText_any _ _ _ _ HC.out (by omega)).mono ?_
    rintro e w4 ⟨kv, L, hL, rfl, hO, k⟩
    replace HB := hidIt (HB.out.trans (k.mono HB.out.size))
    replace BS := hidIt (BS.out.kept k)
    replace BH := hidIt (BH.out.kept k)
    obtain ⟨xa, xc, rfl, _, _, hR, _⟩ := hO.form
    have HR := hidIt hR
    clear k hO hR HC
    generalize w3.heap.size = b8 at BH ⊢
    go_wp2_with (fail)
    refine (CS.out _).mono ?_
    rintro e w5 ⟨rfl, k⟩
    replace HB := hidIt (HB.out.trans (k.mono HB.out.size))
    replace BS := hidIt (BS.out.kept k)
    replace BH := hidIt (BH.out.kept k)
    replace HR := hidIt (HR.out.kept k)
    clear k CS
    have BX := hidIt (Box.new w5 (sc K1 K2 U R1 R2 T) 31)
    have k := (Below.refl w5.heap.size w5).alloc (Nat.le_refl _) (.cells (sc K1 K2 U R1 R2 T) 31)
    replace HB := hidIt (HB.out.trans (k.mono HB.out.size))
    replace BS := hidIt (BS.out.kept k)
    replace BH := hidIt (BH.out.kept k)
    replace HR := hidIt (HR.out.kept k)
    clear k
    have CHI := hidIt (fun W tb i1 i2 i3 => impl_Holds h1 h2 hu h3 h4 h5 t now e_errNone e_errOver e_errOther W tb i1 i2 i3 (by omega))
    have CHS := hidIt (fun W => spec_Holds h1 h2 hu h3 h4 h5 t now W (by omega))
    have HF : Hid (holdsB h1 h2 hu h3 h4 h5 t now = true → ∃ m : Nat, hu = (m : Int) ∧ m ≤ 1000000 ∧ now < hu ∧ validB h1 h2 (stx m t) h3 h4 h5 = true) := hidIt holds_facts
    have CKI := hidIt (fun W h t i1 i2 => impl_KeysText xa xc L e_errNone e_errMany W h t i1 i2 (by omega))
    have CKS := hidIt (fun W h => spec_KeysText xa xc L W h (by omega))
    generalize holdsB h1 h2 hu h3 h4 h5 t now = hh at CHI CHS HF
    generalize keysT L = kt at CKI CKS
    have hhh : (hh != hh) = false := by simp
    go_upto_region 8 with fail
    generalize w5.alloc (.cells (sc K1 K2 U R1 R2 T) 31) = wz at BX BS BH HB HR ⊢
    generalize w5.heap.size = b12 at BX ⊢
    haveI := BelowBy.one wz
    have PI := hidIt (fun p : BelowBy wz => CHI.out p.world ((HT.out.kept HB.out).kept p.h) ((H1.out.kept HB.out).kept p.h) ((H3.out.kept HB.out).kept p.h) ((H4.out.kept HB.out).kept p.h))
    have PK := hidIt (fun p : BelowBy wz => CKI.out p.world (HR.out.kept p.h) ((HT.out.kept HB.out).kept p.h) ((H1.out.kept HB.out).kept p.h) ((H2.out.kept HB.out).kept p.h))
    have PL := hidIt (fun p : BelowBy wz => CKS.out p.world (HR.out.kept p.h))
    have s0 := fun p : BelowBy wz => p.cell (BS.out.c 0 (v := .int .i64 K1) rfl)
    have s1 := fun p : BelowBy wz => p.cell (BS.out.c 1 (v := .int .i64 K2) rfl)
    have s2 := fun p : BelowBy wz => p.cell (BS.out.c 2 (v := .int .i64 U) rfl)
    have s3 := fun p : BelowBy wz => p.cell (BS.out.c 3 (v := .int .i64 R1) rfl)
    have s4 := fun p : BelowBy wz => p.cell (BS.out.c 4 (v := .int .i64 R2) rfl)
    have s5 := fun p : BelowBy wz => p.cell (BS.out.c 5 (v := .int .i64 T) rfl)
    have g0 := fun p : BelowBy wz => p.cell (BH.out.c 0 (v := .int .i64 h1) rfl)
    have g1 := fun p : BelowBy wz => p.cell (BH.out.c 1 (v := .int .i64 h2) rfl)
    have g2 := fun p : BelowBy wz => p.cell (BH.out.c 2 (v := .int .i64 hu) rfl)
    have g3 := fun p : BelowBy wz => p.cell (BH.out.c 3 (v := .int .i64 h3) rfl)
    have g4 := fun p : BelowBy wz => p.cell (BH.out.c 4 (v := .int .i64 h4) rfl)
    have g5 := fun p : BelowBy wz => p.cell (BH.out.c 5 (v := .int .i64 h5) rfl)
    have x0 := fun p : BelowBy wz => p.cell (BX.out.c 0 (v := .int .i64 K1) rfl)
    have x1 := fun p : BelowBy wz => p.cell (BX.out.c 1 (v := .int .i64 K2) rfl)
    have x2 := fun p : BelowBy wz => p.cell (BX.out.c 2 (v := .int .i64 U) rfl)
    have x3 := fun p : BelowBy wz => p.cell (BX.out.c 3 (v := .int .i64 R1) rfl)
    have x4 := fun p : BelowBy wz => p.cell (BX.out.c 4 (v := .int .i64 R2) rfl)
    have x5 := fun p : BelowBy wz => p.cell (BX.out.c 5 (v := .int .i64 T) rfl)
    have qK1 : (K1 == K1) = true := by simp
    have qK2 : (K2 == K2) = true := by simp
    have qU : (U == U) = true := by simp
    have qR1 : (R1 == R1) = true := by simp
    have qR2 : (R2 == R2) = true := by simp
    have qT : (T == T) = true := by simp
    refine wp_region_below (by kernel_rfl) (by kernel_rfl) ?_
    repeat (go_big_quiet_step (first | (go_at_call 10; exact calls_below (PI.out _)) | (go_at_call 11; exact calls_below (CHS.out _)) | (go_at_call 12; exact calls_below (PK.out _)) | (go_at_call 13; exact calls_below (PL.out _))))
    refine wpQuiet_nil ?_
    intro _ hw'
    obtain ⟨pq, rfl⟩ := hw'
    have k := pq.h
    generalize pq.world = w6 at k ⊢
    replace HB := hidIt (HB.out.trans (k.mono HB.out.size))
    replace BS := hidIt (BS.out.kept k)
    replace BH := hidIt (BH.out.kept k)
    clear k PI PK PL CKI CKS CHS HR BX s0 s1 s2 s3 s4 s5 g0 g1 g2 g3 g4 g5 x0 x1 x2 x3 x4 x5
    cases hh
    case' false =>
      go_upto_region 10 with fail
      haveI := BelowBy.one w6
      have g0 := fun p : BelowBy w6 => p.cell (BH.out.c 0 (v := .int .i64 h1) rfl)
      have g1 := fun p : BelowBy w6 => p.cell (BH.out.c 1 (v := .int .i64 h2) rfl)
      have g2 := fun p : BelowBy w6 => p.cell (BH.out.c 2 (v := .int .i64 hu) rfl)
      have g3 := fun p : BelowBy w6 => p.cell (BH.out.c 3 (v := .int .i64 h3) rfl)
      have g4 := fun p : BelowBy w6 => p.cell (BH.out.c 4 (v := .int .i64 h4) rfl)
      have g5 := fun p : BelowBy w6 => p.cell (BH.out.c 5 (v := .int .i64 h5) rfl)
      have PI := hidIt (fun p : BelowBy w6 => CHI.out p.world ((HT.out.kept HB.out).kept p.h) ((H1.out.kept HB.out).kept p.h) ((H3.out.kept HB.out).kept p.h) ((H4.out.kept HB.out).kept p.h))
      refine wp_region_below (by kernel_rfl) (by kernel_rfl) ?_
      repeat (go_big_quiet_step (first | (go_at_call 10; exact calls_below (PI.out _))))
      refine wpQuiet_nil ?_
      intro _ hw'
      obtain ⟨pq, rfl⟩ := hw'
      have k := pq.h
      generalize pq.world = w7 at k ⊢
      replace HB := hidIt (HB.out.trans (k.mono HB.out.size))
      replace BS := hidIt (BS.out.kept k)
      clear k PI g0 g1 g2 g3 g4 g5 BH CHI HF hhh
    case' true =>
      obtain ⟨m, rfl, hm, hlt, hv⟩ := HF.out rfl
      have CD := hidIt (fun W => digits_S m W (by omega))
      have CV : Hid (∀ W, Tab W → Calls Tryd.prog 14 #[.agg #[.int .i64 h1, .int .i64 h2], .string (numS m ++ ⟨#[32]⟩ ++ t), .agg #[.int .i64 h3, .int .i64 h4, .int .i64 h5]] W fun e w' => e = .returned (.bool true) ∧ Below W.heap.size W w') := hidIt (fun W tb => by
        have := impl_Valid_any h1 h2 (stx m t) h3 h4 h5 W tb (by have := stx_size (u := m) (s := t) (by omega); omega)
        rw [hv] at this
        exact this)
      have hxm := numS_size m (by omega)
      generalize numS m = xm at CD CV hxm
      have hle : decide ((m : Int) ≤ now) = false := decide_eq_false (by omega)
      have hle' : ¬ (m : Int) ≤ now := by omega
      have z0 : (⟨#[32]⟩ : ByteArray).size = 1 := rfl
      have z1 : ¬ 9223372036854775807 < xm.size + 1 := by omega
      have z2 : ¬ 9223372036854775807 < xm.size + 1 + t.size := by omega
      clear hv hm hlt
      go_upto_region 10 with fail
      haveI := BelowBy.one w6
      have g0 := fun p : BelowBy w6 => p.cell (BH.out.c 0 (v := .int .i64 h1) rfl)
      have g1 := fun p : BelowBy w6 => p.cell (BH.out.c 1 (v := .int .i64 h2) rfl)
      have g2 := fun p : BelowBy w6 => p.cell (BH.out.c 2 (v := .int .i64 m) rfl)
      have g3 := fun p : BelowBy w6 => p.cell (BH.out.c 3 (v := .int .i64 h3) rfl)
      have g4 := fun p : BelowBy w6 => p.cell (BH.out.c 4 (v := .int .i64 h4) rfl)
      have g5 := fun p : BelowBy w6 => p.cell (BH.out.c 5 (v := .int .i64 h5) rfl)
      have PI := hidIt (fun p : BelowBy w6 => CHI.out p.world ((HT.out.kept HB.out).kept p.h) ((H1.out.kept HB.out).kept p.h) ((H3.out.kept HB.out).kept p.h) ((H4.out.kept HB.out).kept p.h))
      have PV := hidIt (fun p : BelowBy w6 => CV.out p.world ((HT.out.kept HB.out).kept p.h))
      refine wp_region_below (by kernel_rfl) (by kernel_rfl) ?_
      repeat (go_big_quiet_step (first | (go_at_call 10; exact calls_below (PI.out _)) | (go_at_call 15; exact calls_below (CD.out _)) | (go_at_call 14; exact calls_below (PV.out _))))
      refine wpQuiet_nil ?_
      intro _ hw'
      obtain ⟨pq, rfl⟩ := hw'
      have k := pq.h
      generalize pq.world = w7 at k ⊢
      replace HB := hidIt (HB.out.trans (k.mono HB.out.size))
      replace BS := hidIt (BS.out.kept k)
      clear k PI PV CD CV g0 g1 g2 g3 g4 g5 BH CHI HF hhh hle hle' hxm z0 z1 z2
    all_goals
      rcases HQ.out with ⟨rfl, rfl, rfl, rfl, rfl, rfl, rfl⟩ | ⟨rfl, v, c1, c2, x, rfl, rfl, hv, hx, l1, l2, l3, l4, l5, l6, l7⟩
      · clear HQ
        have s0 := BS.out.c 0 (v := .int .i64 0) rfl
        have s1 := BS.out.c 1 (v := .int .i64 0) rfl
        have s2 := BS.out.c 2 (v := .int .i64 0) rfl
        have s3 := BS.out.c 3 (v := .int .i64 0) rfl
        have s4 := BS.out.c 4 (v := .int .i64 0) rfl
        have s5 := BS.out.c 5 (v := .int .i64 0) rfl
        go_wp2_with (fail)
        go_ret
        exact ⟨rfl, HB.out⟩
      · have CD := hidIt l1
        have C1 := hidIt l2
        have C2 := hidIt l3
        have J1 := hidIt (fun (h0 : 0 < v) W tb i1 i2 i3 => by
          have := impl_Holds K1 K2 v R1 R2 T s ((v : Int) - 1) e_errNone e_errOver e_errOther W tb i1 i2 i3 (by omega)
          rw [l4 h0] at this
          exact this)
        have J2 := hidIt (fun (h0 : 0 < v) W tb i1 i2 i3 => by
          have := impl_Holds K1 K2 v R1 R2 T (s ++ ⟨#[120]⟩) ((v : Int) - 1) e_errNone e_errOver e_errOther W tb i1 i2 i3 (by
            rw [ByteArray.size_append]
            have : (⟨#[120]⟩ : ByteArray).size = 1 := rfl
            omega)
          rw [l5 h0] at this
          exact this)
        have J3 := hidIt (fun W tb i1 i2 i3 => by
          have := impl_Holds K1 K2 v R1 R2 T s v e_errNone e_errOver e_errOther W tb i1 i2 i3 (by omega)
          rw [l6] at this
          exact this)
        have CK := hidIt l7
        clear HQ l1 l2 l3 l4 l5 l6 l7
        have z0 : (⟨#[32]⟩ : ByteArray).size = 1 := rfl
        have z1 : (⟨#[120]⟩ : ByteArray).size = 1 := rfl
        have z2 : ¬ 9223372036854775807 < x.size + 1 := by omega
        have z3 : ¬ 9223372036854775807 < x.size + 1 + s.size := by omega
        have z4 : ¬ 9223372036854775807 < s.size + 1 := by omega
        have z5 : ¬ 9223372036854775807 < x.size + 1 + (s.size + 1) := by omega
        have z6 : (s ++ ⟨#[120]⟩).size = s.size + 1 := by rw [ByteArray.size_append, z1]
        go_upto_region 15 with fail
        generalize s ++ ⟨#[120]⟩ = so at C2 J2 z6 ⊢
        have z7 : ¬ 9223372036854775807 < x.size + 1 + so.size := by omega
        haveI := BelowBy.one w7
        have s0 := fun p : BelowBy w7 => p.cell (BS.out.c 0 (v := .int .i64 K1) rfl)
        have s1 := fun p : BelowBy w7 => p.cell (BS.out.c 1 (v := .int .i64 K2) rfl)
        have s2 := fun p : BelowBy w7 => p.cell (BS.out.c 2 (v := .int .i64 v) rfl)
        have s3 := fun p : BelowBy w7 => p.cell (BS.out.c 3 (v := .int .i64 R1) rfl)
        have s4 := fun p : BelowBy w7 => p.cell (BS.out.c 4 (v := .int .i64 R2) rfl)
        have s5 := fun p : BelowBy w7 => p.cell (BS.out.c 5 (v := .int .i64 T) rfl)
        have P1 := hidIt (fun p : BelowBy w7 => C1.out p.world ((HT.out.kept HB.out).kept p.h))
        have P2 := hidIt (fun p : BelowBy w7 => C2.out p.world ((HT.out.kept HB.out).kept p.h))
        refine wp_region_below (by kernel_rfl) (by kernel_rfl) ?_
        repeat (go_big_quiet_step (first | (go_at_call 15; exact calls_below (CD.out _)) | (go_at_call 16; first | (with_reducible exact calls_below (P1.out _)) | (with_reducible exact calls_below (P2.out _)))))
        refine wpQuiet_nil ?_
        intro _ hw'
        obtain ⟨pq, rfl⟩ := hw'
        have k := pq.h
        generalize pq.world = w8 at k ⊢
        replace HB := hidIt (HB.out.trans (k.mono HB.out.size))
        replace BS := hidIt (BS.out.kept k)
        clear k P1 P2 C1 C2 CD s0 s1 s2 s3 s4 s5
        have hqq : ((c1 == c2) != (c1 == c2)) = false := by simp
        by_cases hv0 : 0 < v
        case' pos =>
          replace J1 := hidIt (J1.out hv0)
          replace J2 := hidIt (J2.out hv0)
          have g0 : (0 : Int) < (v : Int) := by omega
          have g1 : (v : Int) > 0 := by omega
          have g2 : (v : Int) ≤ 1000000 := by omega
          have s0 := BS.out.c 0 (v := .int .i64 K1) rfl
          have s1 := BS.out.c 1 (v := .int .i64 K2) rfl
          have s2 := BS.out.c 2 (v := .int .i64 v) rfl
          have s3 := BS.out.c 3 (v := .int .i64 R1) rfl
          have s4 := BS.out.c 4 (v := .int .i64 R2) rfl
          have s5 := BS.out.c 5 (v := .int .i64 T) rfl
          go_wp2_with (fail)
          refine (J1.out _ (HT.out.kept HB.out) (H1.out.kept HB.out) (H3.out.kept HB.out) (H4.out.kept HB.out)).mono ?_
          rintro e w9 ⟨rfl, k⟩
          replace HB := hidIt (HB.out.trans (k.mono HB.out.size))
          replace BS := hidIt (BS.out.kept k)
          clear k s0 s1 s2 s3 s4 s5
          have s0 := BS.out.c 0 (v := .int .i64 K1) rfl
          have s1 := BS.out.c 1 (v := .int .i64 K2) rfl
          have s2 := BS.out.c 2 (v := .int .i64 v) rfl
          have s3 := BS.out.c 3 (v := .int .i64 R1) rfl
          have s4 := BS.out.c 4 (v := .int .i64 R2) rfl
          have s5 := BS.out.c 5 (v := .int .i64 T) rfl
          go_wp2_with (fail)
          refine (J2.out _ (HT.out.kept HB.out) (H1.out.kept HB.out) (H3.out.kept HB.out) (H4.out.kept HB.out)).mono ?_
          rintro e wq ⟨rfl, k⟩
          replace HB := hidIt (HB.out.trans (k.mono HB.out.size))
          replace BS := hidIt (BS.out.kept k)
          clear k s0 s1 s2 s3 s4 s5 J1 J2 g0 g1 g2
          go_wp2_with (fail)
        case' neg =>
          have g0 : ¬ (0 : Int) < (v : Int) := by omega
          have g1 : ¬ (v : Int) > 0 := by omega
          clear J1 J2
          go_wp2_with (fail)
          generalize w8 = wq at HB BS ⊢
          clear g0 g1
        all_goals
          refine (CK.out _).mono ?_
          rintro e wr ⟨rfl, k⟩
          replace HB := hidIt (HB.out.trans (k.mono HB.out.size))
          replace BS := hidIt (BS.out.kept k)
          clear k
          have BK := hidIt (Box.new wr #[.int .i64 K1, .int .i64 K2] 27)
          have k := (Below.refl wr.heap.size wr).alloc (Nat.le_refl _) (.cells #[.int .i64 K1, .int .i64 K2] 27)
          replace HB := hidIt (HB.out.trans (k.mono HB.out.size))
          replace BS := hidIt (BS.out.kept k)
          clear k
          have s0 := BS.out.c 0 (v := .int .i64 K1) rfl
          have s1 := BS.out.c 1 (v := .int .i64 K2) rfl
          have s2 := BS.out.c 2 (v := .int .i64 v) rfl
          have s3 := BS.out.c 3 (v := .int .i64 R1) rfl
          have s4 := BS.out.c 4 (v := .int .i64 R2) rfl
          have s5 := BS.out.c 5 (v := .int .i64 T) rfl
          go_wp2_with (fail)
          refine (J3.out _ (HT.out.kept HB.out) (H1.out.kept HB.out) (H3.out.kept HB.out) (H4.out.kept HB.out)).mono ?_
          rintro e wt ⟨rfl, k⟩
          replace HB := hidIt (HB.out.trans (k.mono HB.out.size))
          clear k s0 s1 s2 s3 s4 s5
          go_wp2_with (fail)
          go_ret
          exact ⟨rfl, HB.out⟩

theorem door_met (os : Os) (args : Array Value) : laidMetH Tryd.prog Rows.fnSealedRow.laid ((World.doorLaid Tryd.prog 100 os).forCall (fun _ _ => 0) ⟨#[], args, []⟩).memory :=
  laidMetH_of_parts3 (fuel := 8) (laidMet_of_run' 8 (by kernel_rfl) (by kernel_rfl)) (by kernel_rfl) (by kernel_rfl)
set_option maxRecDepth 100000 in
theorem lifted (os : Os) (started : os.Started) (H : Type) (enc : TypeId × Value → H) :
    ReturnsInHanded {} Tryd.checked os 3 .any (fun w args => (Rows.fnSealedSpec.pre enc Tryd.prog Tryd.f3 [] false w args ∧ laidMetH Tryd.prog Rows.fnSealedRow.laid w) ∧ sizedMet enc Tryd.prog Tryd.f3 (OpenSpec.ofChange Rows.fnSealedSpec) false w args) (Rows.fnSealedSpec.post enc Tryd.prog Tryd.f3 false true false false) := by
  refine returnsInHanded_of_change_and (C := Tryd.checked) (X := fun w _ => laidMetH Tryd.prog Rows.fnSealedRow.laid w) (fun _ _ _ hh h => h.of_heap hh) own started (by kernel_rfl) Tryd.func3
    (ChangeSpec.witness_shaped (enc := enc) (C := Tryd.checked) (os := os) (X := fun w _ => laidMetH Tryd.prog Rows.fnSealedRow.laid w) false (World.doorLaid Tryd.prog 100 os) #[.slice none 0 0] 8 rfl (World.shaped_of_RefB (by kernel_rfl) (by kernel_rfl)) (by kernel_rfl) (by kernel_rfl) (by kernel_rfl) (door_met os _)) ?_
  intro W base args ds gs before hval0 hW _ _ hL _
  have hval : ∀ (j : Nat) t v, Tryd.f3.params[j]? = some t → args[j]? = some v → Value.okWide Tryd.prog W .any base t v := hval0
  have hW' := hW
  obtain ⟨p, q, hA0, hV, rfl, hfz, hnd⟩ := hW
  have hA : DataW.TrodAll enc Tryd.prog W 0 (fun _ => true) true Tryd.f3.params.toList args.toList ds p := hA0
  rw [Tryd.params3] at hA hval
  obtain ⟨v0, vs0, d0, ds0, p0, q0, hargs, rfl, rfl, h0, r0⟩ := trodAll_cons hA
  obtain ⟨rfl, rfl, rfl⟩ := trodAll_nil r0
  obtain rfl : args = #[v0] := by cases args; simp_all
  have hP : laidMet Tryd.prog [("math/bits.deBruijn32tab", Rows.laid_math_bits_deBruijn32tab), ("math/bits.deBruijn64tab", Rows.laid_math_bits_deBruijn64tab), ("internal/strconv.uint64pow10", Rows.laid_internal_strconv_uint64pow10), ("loop.example/g00307/impl.errNone", Rows.laid_loop_example_g00307_impl_errNone), ("loop.example/g00307/impl.errMany", Rows.laid_loop_example_g00307_impl_errMany), ("loop.example/g00307/impl.errOther", Rows.laid_loop_example_g00307_impl_errOther), ("loop.example/g00307/impl.errOver", Rows.laid_loop_example_g00307_impl_errOver)] W := by rw [MakeChecks.laidMetH_plain _ _ _ (by kernel_rfl)] at hL; exact hL
  obtain ⟨e_errNone, s_errNone, hv_errNone, _, _, _⟩ := laid_sentinel (hP.tail.tail.tail) g_errNone t_errNone Tryd.underlying59 Se.row Tryd.underlying136 Tryd.underlying151 rfl rfl Tryd.underlying9 Se.cellsE Se.cellsS
  obtain ⟨e_errMany, s_errMany, hv_errMany, _, _, _⟩ := laid_sentinel (hP.tail.tail.tail.tail) g_errMany t_errMany Tryd.underlying59 Se.row Tryd.underlying136 Tryd.underlying151 rfl rfl Tryd.underlying9 Se.cellsE Se.cellsS
  obtain ⟨e_errOther, s_errOther, hv_errOther, _, _, _⟩ := laid_sentinel (hP.tail.tail.tail.tail.tail) g_errOther t_errOther Tryd.underlying59 Se.row Tryd.underlying136 Tryd.underlying151 rfl rfl Tryd.underlying9 Se.cellsE Se.cellsS
  obtain ⟨e_errOver, s_errOver, hv_errOver, _, _, _⟩ := laid_sentinel (hP.tail.tail.tail.tail.tail.tail) g_errOver t_errOver Tryd.underlying59 Se.row Tryd.underlying136 Tryd.underlying151 rfl rfl Tryd.underlying9 Se.cellsE Se.cellsS
  have hV1 : DataW.TrodVars enc Tryd.prog W (fun _ => true) ["loop.example/g00307/impl.errNone", "loop.example/g00307/impl.errOver", "loop.example/g00307/impl.errOther", "loop.example/g00307/impl.errMany"] gs q := hV
  obtain ⟨rfl, rfl⟩ := hV1.unique (Se.vars_cons enc g_errNone t_errNone hv_errNone trivial (Se.vars_cons enc g_errOver t_errOver hv_errOver trivial (Se.vars_cons enc g_errOther t_errOther hv_errOther trivial (Se.vars_cons enc g_errMany t_errMany hv_errMany trivial (Se.vars_nil enc _)))))
  have k0 := h0
  have lt0 : ∀ x ∈ p0, x.block < W.heap.size := by obtain ⟨m, hm⟩ := k0; exact DataW.trod_lt m _ _ _ hm
  obtain ⟨a0, len0, cap0, rfl⟩ := okWide_slice Tryd.underlying22 (hval 0 22 v0 rfl rfl)
  obtain ⟨z0, w0⟩ : ∃ zs, IsRow .u8 W a0 len0 cap0 zs := by
    obtain ⟨fuel, hf⟩ := h0
    rcases open_ints Tryd.underlying22 Tryd.underlying5 (by kernel_rfl) hf with ⟨hcs, _⟩ | ⟨x, l, c, zs, hcs, _, hl, hm, hz, _, hcell, hwz⟩
    · simp [Value.cells] at hcs
      obtain ⟨rfl, rfl, rfl⟩ := hcs
      exact ⟨[], .inl ⟨rfl, rfl, rfl, rfl⟩⟩
    · simp [Value.cells] at hcs
      obtain ⟨rfl, rfl, rfl⟩ := hcs
      exact ⟨zs, .inr ⟨_, rfl, hl, hm, by simpa using hz, hcell, hwz⟩⟩
  clear hA0 hval0
  refine (walk a0 len0 cap0 z0 e_errNone e_errMany e_errOther e_errOver W w0 (Sg.tab_of_plain hP) (Se.at_of_var g_errNone hv_errNone) (Se.at_of_var g_errMany hv_errMany) (Se.at_of_var g_errOther hv_errOther) (Se.at_of_var g_errOver hv_errOver)).mono fun e W' ⟨he, bel⟩ => ?_
  subst he
  exact ⟨_, rfl, _, _, _, [], _, [.cell 0 0, .cell 1 0, .cell 2 0, .cell 3 0], hW', trodAll_mk1 (shut_bool Tryd.underlying4 _), (trodAll_cons_mk (Below.trod laidOut (by kernel_rfl) (of_decide_eq_true (by kernel_rfl)) k0 bel lt0) trodAll_mk0), (Se.vars_cons enc g_errNone t_errNone (Se.var_kept hv_errNone bel) trivial (Se.vars_cons enc g_errOver t_errOver (Se.var_kept hv_errOver bel) trivial (Se.vars_cons enc g_errOther t_errOther (Se.var_kept hv_errOther bel) trivial (Se.vars_cons enc g_errMany t_errMany (Se.var_kept hv_errMany bel) trivial (Se.vars_nil enc _))))), bel.frame _, fun h => by cases h⟩

theorem over : Rows.fnSealedRow.holds Tryd.pinned (OpenSpec.ofChange Rows.fnSealedSpec) :=
  OpenClaim.holds_of_wide 3 Tryd.f3 rfl rfl rfl rfl rfl rfl rfl ⟨rfl, rfl, rfl, rfl, rfl⟩ rfl rfl rfl rfl rfl (by kernel_rfl) Tryd.func3 (by kernel_rfl)
    (of_decide_eq_true (by kernel_rfl)) (by unfold Func.isWrapper; first | (rw [if_pos (by decide +kernel)]; kernel_rfl) | (rw [if_neg (by decide +kernel)]; exact ⟨rfl, rfl⟩))
    (fun os started H enc _ => lifted os started H enc)
theorem card : Rows.FnSealedCardSaid :=
  Claim7.holds_tied_plain_at .later [] [.data, .data, .data, .sentinel, .sentinel, .sentinel, .sentinel] true (true, "d0d3c905186b8f0ac2fc884db2cfdedab4fdf03b96973df847fed9faa57340ac") false
    over (fun _ h => by cases h) (by kernel_rfl) (fun _ h => by cases h) fnSealed_row_tie rfl ⟨rfl, rfl⟩ (by kernel_rfl) rfl
    (fun f fn hf hfn => by
      obtain rfl : f = 3 := Option.some.inj ((show Tryd.prog.funcNamed "loop.example/g00307/laws.FnSealed" = some 3 by kernel_rfl).symm.trans hf) |>.symm
      obtain rfl : fn = Tryd.f3 := (Option.some.inj (Tryd.func3.symm.trans hfn)).symm
      exact ⟨by kernel_rfl, fun j t ht => by
        rw [Tryd.params3] at ht
        have hm : t ∈ [22] := by simpa using Array.mem_of_getElem? ht
        have hall : ([22].all fun u => !Tryd.prog.wantsStandIn u) = true := by kernel_rfl
        exact (show Tryd.prog.wantsStandIn t = false by simpa using List.all_eq_true.1 hall t hm)⟩)
    (by kernel_rfl)
end Go.Proofs.YtciikondckoboaaDoor.fnSealed
namespace Go.Proofs.YtciikondckoboaaDoor
theorem fnSealed_holds : Rows.FnSealedCardSaid := fnSealed.card
#print axioms fnSealed_holds
end Go.Proofs.YtciikondckoboaaDoor
