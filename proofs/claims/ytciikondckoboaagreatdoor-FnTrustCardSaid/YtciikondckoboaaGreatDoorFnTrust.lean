/-
  FnTrust answers true at every slice of bytes and leaves it as it was: from what is trusted on just what a key of it sealed is trusted, by no other ds. No condition but that the library's table of powers of ten and its handle of the type error, and the program's four errors, lie as their text lays them.
-/
import Derived.Test.YtciikondckoboaaGreatDoorRows
import Derived.Test.YtciikondckoboaaGreatDoorBun6
import Derived.WalkKit
import Derived.ProofKit
import Derived.OpenShut
import Derived.ShutString
import Derived.ChangeOld
import Derived.Below
import Derived.Lib.SmallJoins
import Derived.Test.YtciikondckoboaaGreatDoorDoorMet
import Derived.Test.YtciikondckoboaaGreatDoorTie
import Derived.Test.YtciikondckoboaaGreatDoorCards
import Derived.LaidMore
import Derived.Stop.Joined
import Derived.SevenTiedAt
import Derived.Test.YtciikondckoboaaGreatDoorBun5
import Derived.Test.YtciikondckoboaaGreatDoorBun7
import Derived.Laws.StructEq
namespace Go.Proofs.YtciikondckoboaaGreatDoor.fnTrust
open Go.ChangeShapes Go.WideShapes Go.ChangeAt Go.RowKit Go.Joins
set_option linter.unusedVariables false

theorem own : ownKnob Tryz.prog.godebug = none := by kernel_rfl
theorem laidOut : laidOutB Tryz.prog = true := by kernel_rfl
/-- A row of integers that came in: nil, or cells at an address. -/
def IsRow (k : IntKind) (w : World) (a : Option Addr) (len cap : Nat) (zs : List Int) : Prop :=
  (a = none ∧ len = 0 ∧ cap = 0 ∧ zs = []) ∨
  ∃ x, a = some x ∧ len ≤ cap ∧ cap ≤ maxLen ∧ zs.length = cap ∧ (∀ i, i < zs.length → w.cell? (x.add i) = some (.int k (zs.getD i 0))) ∧ ∀ n ∈ zs, (Lit.int k n).wf = true
theorem g_errNone : Tryz.prog.globalNamed "loop.example/g00307/impl.errNone" = some 0 := by kernel_rfl
theorem t_errNone : (Tryz.prog.globals[0]?).map (·.type) = some 49 := by kernel_rfl
theorem g_errMany : Tryz.prog.globalNamed "loop.example/g00307/impl.errMany" = some 3 := by kernel_rfl
theorem t_errMany : (Tryz.prog.globals[3]?).map (·.type) = some 49 := by kernel_rfl
theorem g_errOther : Tryz.prog.globalNamed "loop.example/g00307/impl.errOther" = some 2 := by kernel_rfl
theorem t_errOther : (Tryz.prog.globals[2]?).map (·.type) = some 49 := by kernel_rfl
theorem g_errOver : Tryz.prog.globalNamed "loop.example/g00307/impl.errOver" = some 1 := by kernel_rfl
theorem t_errOver : (Tryz.prog.globals[1]?).map (·.type) = some 49 := by kernel_rfl
open Cv Cu Sg Dd
open Go.Proofs.YtciikondckoboaaGreatDoor.Pt (Ln lat)
open Go.Proofs.YtciikondckoboaaGreatDoor.Bo (Box Box.new Box.newAt Box.kept Box.alloc Box.put Box.other Box.c Box.drew)
open Go.Proofs.YtciikondckoboaaGreatDoor.Rc (BelowBy wp_region_below calls_below calls_same)
theorem code_of {w : World} {a : Option Addr} {len cap : Nat} {zs : List Int} (h : IsRow .u8 w a len cap zs) : Dr.Code w.heap.size w a len := by
  refine ⟨fun i hi => ?_⟩
  rcases h with ⟨rfl, rfl, rfl, rfl⟩ | ⟨x, rfl, hl, hm, hz, hcell, hwz⟩
  · omega
  · have hc := hcell i (by omega)
    obtain ⟨b, off, spot⟩ := x
    have h00 := hcell 0 (by omega)
    have hspot : spot = none := by simpa [Addr.add] using World.cell?_spot h00
    subst hspot
    have hc0 : w.cell? ⟨b, off + i, none⟩ = some (.int .u8 (zs.getD i 0)) := by
      by_cases e : i = 0
      · subst e; simpa [Addr.add] using hc
      · simpa [Addr.add, e] using hc
    have hw := hwz (zs.getD i 0) (by rw [List.getD_eq_getElem?_getD, List.getElem?_eq_getElem (by omega)]; simp)
    have hb : b < w.heap.size := by
      refine Decidable.byContradiction fun hn => ?_
      have hx : w.heap[b]? = none := by simp; omega
      simp [World.cell?, hx] at hc0
    have hbd := bounds_u8 hw
    exact ⟨b, off, _, rfl, hb, hc0, hbd.1, hbd.2⟩
theorem trust_facts {ds : Int} {zz : ByteArray} {L : List Ln} {k1 k2 u r1 r2 t S1 S2 U S3 S4 S5 : Int} {tt : ByteArray} {now : Int} (h : trustB ds zz L k1 k2 u r1 r2 t S1 S2 U S3 S4 S5 tt now = true) :
    hasB L k1 k2 = true ∧ hasB L S1 S2 = true ∧ ds = dsB zz k1 k2 ∧ now < u ∧ now < U ∧ holdsB S1 S2 U S3 S4 S5 tt now = true ∧ trustB (ds + 1) zz L k1 k2 u r1 r2 t S1 S2 U S3 S4 S5 tt now = false := by
  unfold trustB at h
  simp only [Bool.and_eq_true, decide_eq_true_eq] at h
  obtain ⟨_, _, _, h4, h5, h6, h7, h8⟩ := h
  have g1 : now < u := by
    unfold holdsB at h6
    simp only [Bool.and_eq_true, decide_eq_true_eq] at h6
    exact h6.2.2.1
  have g2 : now < U := by
    have := h8
    unfold holdsB at this
    simp only [Bool.and_eq_true, decide_eq_true_eq] at this
    exact this.2.2.1
  refine ⟨h5, h7, h4, g1, g2, h8, ?_⟩
  unfold trustB
  have : ¬ ds + 1 = dsB zz k1 k2 := by omega
  rw [decide_eq_false this, Bool.false_and, Bool.and_false, Bool.and_false, Bool.and_false]
theorem has_more {L : List Ln} {i : Nat} (x y : Int) (hi : i < L.length) : hasB (L.take (i + 1)) x y = (hasB (L.take i) x y || ((lat L i).1 == x && (lat L i).2 == y)) := by
  unfold hasB
  rw [lat_eq hi, List.take_add_one, List.getElem?_eq_getElem hi]
  show decide ((x, y) ∈ L.take i ++ [L[i]]) = _
  by_cases h1 : (x, y) ∈ L.take i
  · rw [decide_eq_true h1, Bool.true_or]
    exact decide_eq_true (List.mem_append_left _ h1)
  · rw [decide_eq_false h1, Bool.false_or]
    generalize L[i] = p
    obtain ⟨px, py⟩ := p
    by_cases h2 : px = x ∧ py = y
    · obtain ⟨rfl, rfl⟩ := h2
      have e : decide ((px, py) ∈ L.take i ++ [(px, py)]) = true := decide_eq_true (List.mem_append_right _ (List.mem_singleton.2 rfl))
      rw [e]
      simp
    · have e : decide ((x, y) ∈ L.take i ++ [(px, py)]) = false := by
        refine decide_eq_false (fun h => ?_)
        rcases List.mem_append.1 h with h | h
        · exact h1 h
        · have := Prod.mk.inj (List.mem_singleton.1 h)
          exact h2 ⟨this.1.symm, this.2.symm⟩
      rw [e]
      simp only
      cases g1 : (px == x) <;> cases g2 : (py == y) <;> first | rfl | (exact absurd ⟨by simpa using g1, by simpa using g2⟩ h2)
set_option maxRecDepth 100000 in
set_option maxHeartbeats 24000000 in

theorem walk (a0 : Option Addr) (len0 cap0 : Nat) (z0 : List Int) (e_errNone e_errMany e_errOther e_errOver : Addr) (w : World) (w0 : IsRow .u8 w a0 len0 cap0 z0) (htab : Sg.Tab w) (h_errNone : Se.At w 0 e_errNone) (h_errMany : Se.At w 3 e_errMany) (h_errOther : Se.At w 2 e_errOther) (h_errOver : Se.At w 1 e_errOver) (htyp : Se.Typ w) :
    Calls Tryz.prog 3 #[.slice a0 len0 cap0] w fun e w' => e = .returned (.bool true) ∧ Below w.heap.size w w' := by
  have hcode := code_of w0
  have HC := hidIt hcode
  have HT := hidIt htab
  have HY := hidIt htyp
  have H1 := hidIt h_errNone
  have H2 := hidIt h_errMany
  have H3 := hidIt h_errOver
  have H4 := hidIt h_errOther
  clear hcode w0 htab htyp h_errNone h_errMany h_errOver h_errOther
  by_cases hb : 4096 < len0
  · have hb' : (4096 : Int) < (len0 : Int) := by omega
    go_enter Tryz.func3, Tryz.ntmps3
    go_wp2
    go_ret
    exact ⟨rfl, Below.refl _ _⟩
  · have hb' : ¬ (4096 : Int) < (len0 : Int) := by omega
    go_enter Tryz.func3, Tryz.ntmps3
    go_wp2_with (first | (go_at_call 4; go_in) | fail)
    refine (DrawTrusted_any _ _ _ _ HC.out (by omega)).mono ?_
    rintro e w1 ⟨ds, zz, gk, ko, kc, L, k1, k2, u, r1, r2, t, S1, S2, U, S3, S4, S5, tt, now, htt, hL2, hLk, hk2, rfl, hR, k⟩
    have HB := hidIt k
    replace HC := hidIt (Dr.Code.kept HC.out k)
    have HR := hidIt hR
    clear k hR
    have CI := hidIt (fun W h t' y h1 h2 h3 h4 => impl_Trusted ds zz (some ⟨gk, ko, none⟩) kc L k1 k2 u r1 r2 t S1 S2 U S3 S4 S5 tt now e_errNone e_errMany e_errOver e_errOther W h t' y h1 h2 h3 h4 (by omega) (by omega))
    have CJ := hidIt (fun W h t' y h1 h2 h3 h4 => impl_Trusted (ds + 1) zz (some ⟨gk, ko, none⟩) kc L k1 k2 u r1 r2 t S1 S2 U S3 S4 S5 tt now e_errNone e_errMany e_errOver e_errOther W h t' y h1 h2 h3 h4 (by omega) (by omega))
    have CS := hidIt (fun W h => spec_Trusted ds zz (some ⟨gk, ko, none⟩) kc L k1 k2 u r1 r2 t S1 S2 U S3 S4 S5 tt now W h (by omega) (by omega))
    have CD := hidIt (fun W t' h => impl_DsOf zz (.slice (some ⟨gk, ko, none⟩) L.length kc) k1 k2 u r1 r2 t e_errNone W t' h ⟨_, _, _, rfl⟩)
    have CH := hidIt (fun W t' h1 h2 h3 => impl_Holds S1 S2 U S3 S4 S5 tt now e_errNone e_errOver e_errOther W t' h1 h2 h3 (by omega))
    have HF : Hid (trustB ds zz L k1 k2 u r1 r2 t S1 S2 U S3 S4 S5 tt now = true → _) := hidIt trust_facts
    have hmore : Hid (∀ i x y, i < L.length → hasB (L.take (i + 1)) x y = (hasB (L.take i) x y || ((lat L i).1 == x && (lat L i).2 == y))) := hidIt (fun i x y hi => has_more x y hi)
    have hall : Hid (∀ x y, hasB (L.take L.length) x y = hasB L x y) := hidIt (fun x y => by rw [List.take_length])
    have hrange := ds_range zz k1 k2
    generalize trustB ds zz L k1 k2 u r1 r2 t S1 S2 U S3 S4 S5 tt now = pv at CI CS HF
    generalize hn : L.length = n at *
    have HL := hidIt hn
    clear hn
    have hpp : (pv != pv) = false := by simp
    have BD : Hid (Box ((w1.alloc (.cells (dc zz (.slice (some ⟨gk, ko, none⟩) n kc) k1 k2 u r1 r2 t) 32)).alloc (.cells (sc S1 S2 U S3 S4 S5) 30)) w1.heap.size (dc zz (.slice (some ⟨gk, ko, none⟩) n kc) k1 k2 u r1 r2 t)) := hidIt ((Box.new w1 _ _).alloc _)
    have BS : Hid (Box ((w1.alloc (.cells (dc zz (.slice (some ⟨gk, ko, none⟩) n kc) k1 k2 u r1 r2 t) 32)).alloc (.cells (sc S1 S2 U S3 S4 S5) 30)) (w1.heap.size + 1) (sc S1 S2 U S3 S4 S5)) := hidIt (Box.newAt (by simp))
    have k : Below w1.heap.size w1 ((w1.alloc (.cells (dc zz (.slice (some ⟨gk, ko, none⟩) n kc) k1 k2 u r1 r2 t) 32)).alloc (.cells (sc S1 S2 U S3 S4 S5) 30)) := ((Below.refl w1.heap.size w1).alloc (Nat.le_refl _) _).alloc (by simp) _
    replace HB := hidIt (HB.out.trans (k.mono HB.out.size))
    replace HC := hidIt (Dr.Code.kept HC.out k)
    replace HR := hidIt (HR.out.kept k)
    clear k
    have c0 := BD.out.c 0 (v := .string zz) rfl
    have c1 := BD.out.c 1 (v := .slice (some ⟨gk, ko, none⟩) n kc) rfl
    have c2 := BD.out.c 2 (v := .int .i64 k1) rfl
    have c3 := BD.out.c 3 (v := .int .i64 k2) rfl
    have c4 := BD.out.c 4 (v := .int .i64 u) rfl
    have c5 := BD.out.c 5 (v := .int .i64 r1) rfl
    have c6 := BD.out.c 6 (v := .int .i64 r2) rfl
    have c7 := BD.out.c 7 (v := .int .i64 t) rfl
    have d0 := BS.out.c 0 (v := .int .i64 S1) rfl
    have d1 := BS.out.c 1 (v := .int .i64 S2) rfl
    have d2 := BS.out.c 2 (v := .int .i64 U) rfl
    have d3 := BS.out.c 3 (v := .int .i64 S3) rfl
    have d4 := BS.out.c 4 (v := .int .i64 S4) rfl
    have d5 := BS.out.c 5 (v := .int .i64 S5) rfl
    go_wp2_with (fail)
    generalize ((w1.alloc (.cells (dc zz (.slice (some ⟨gk, ko, none⟩) n kc) k1 k2 u r1 r2 t) 32)).alloc (.cells (sc S1 S2 U S3 S4 S5) 30)) = wz at BD BS HB HC HR c0 c1 c2 c3 c4 c5 c6 c7 d0 d1 d2 d3 d4 d5 ⊢
    generalize w1.heap.size + 1 = b5 at *
    generalize w1.heap.size = b4 at *
    refine (CI.out _ HR.out (HT.out.kept HB.out) (HY.out.kept HB.out) (H1.out.kept HB.out) (H2.out.kept HB.out) (H3.out.kept HB.out) (H4.out.kept HB.out)).mono ?_
    rintro e w2 ⟨rfl, k⟩
    replace BD := hidIt (BD.out.kept k)
    replace BS := hidIt (BS.out.kept k)
    replace HR := hidIt (HR.out.kept k)
    replace HB := hidIt (HB.out.trans (k.mono HB.out.size))
    replace HC := hidIt (Dr.Code.kept HC.out k)
    clear k CI c0 c1 c2 c3 c4 c5 c6 c7 d0 d1 d2 d3 d4 d5
    go_wp2_with (fail)
    refine (DrawDsOf_any _ _ _ _ HC.out (by omega)).mono ?_
    rintro e w3 ⟨ez, ev, e1, e2, e3, e4, e5, e6, ⟨ea, en, ec, rfl⟩, rfl, k⟩
    replace BD := hidIt (BD.out.kept k)
    replace BS := hidIt (BS.out.kept k)
    replace HR := hidIt (HR.out.kept k)
    replace HB := hidIt (HB.out.trans (k.mono HB.out.size))
    clear k HC
    have CEI := hidIt (fun W t' h => impl_DsOf ez (.slice ea en ec) e1 e2 e3 e4 e5 e6 e_errNone W t' h ⟨_, _, _, rfl⟩)
    have CES := hidIt (fun W => spec_DsOf ez (.slice ea en ec) e1 e2 e3 e4 e5 e6 W ⟨_, _, _, rfl⟩)
    generalize dsB ez e1 e2 = E at CEI CES
    have hEE : (E != E) = false := by simp
    have BE := hidIt (Box.new w3 (dc ez (.slice ea en ec) e1 e2 e3 e4 e5 e6) 32)
    have k := (Below.refl w3.heap.size w3).alloc (Nat.le_refl _) (.cells (dc ez (.slice ea en ec) e1 e2 e3 e4 e5 e6) 32)
    replace BD := hidIt (BD.out.kept k)
    replace BS := hidIt (BS.out.kept k)
    replace HR := hidIt (HR.out.kept k)
    replace HB := hidIt (HB.out.trans (k.mono HB.out.size))
    clear k
    go_upto_region 6 with fail
    generalize w3.alloc (.cells (dc ez (.slice ea en ec) e1 e2 e3 e4 e5 e6) 32) = wy at BE BD BS HB HR ⊢
    generalize w3.heap.size = b9 at BE ⊢
    haveI := BelowBy.one wy
    have c0 := fun p : BelowBy wy => p.cell (BD.out.c 0 (v := .string zz) rfl)
    have c1 := fun p : BelowBy wy => p.cell (BD.out.c 1 (v := .slice (some ⟨gk, ko, none⟩) n kc) rfl)
    have c2 := fun p : BelowBy wy => p.cell (BD.out.c 2 (v := .int .i64 k1) rfl)
    have c3 := fun p : BelowBy wy => p.cell (BD.out.c 3 (v := .int .i64 k2) rfl)
    have c4 := fun p : BelowBy wy => p.cell (BD.out.c 4 (v := .int .i64 u) rfl)
    have c5 := fun p : BelowBy wy => p.cell (BD.out.c 5 (v := .int .i64 r1) rfl)
    have c6 := fun p : BelowBy wy => p.cell (BD.out.c 6 (v := .int .i64 r2) rfl)
    have c7 := fun p : BelowBy wy => p.cell (BD.out.c 7 (v := .int .i64 t) rfl)
    have d0 := fun p : BelowBy wy => p.cell (BS.out.c 0 (v := .int .i64 S1) rfl)
    have d1 := fun p : BelowBy wy => p.cell (BS.out.c 1 (v := .int .i64 S2) rfl)
    have d2 := fun p : BelowBy wy => p.cell (BS.out.c 2 (v := .int .i64 U) rfl)
    have d3 := fun p : BelowBy wy => p.cell (BS.out.c 3 (v := .int .i64 S3) rfl)
    have d4 := fun p : BelowBy wy => p.cell (BS.out.c 4 (v := .int .i64 S4) rfl)
    have d5 := fun p : BelowBy wy => p.cell (BS.out.c 5 (v := .int .i64 S5) rfl)
    have x0 := fun p : BelowBy wy => p.cell (BE.out.c 0 (v := .string ez) rfl)
    have x1 := fun p : BelowBy wy => p.cell (BE.out.c 1 (v := .slice ea en ec) rfl)
    have x2 := fun p : BelowBy wy => p.cell (BE.out.c 2 (v := .int .i64 e1) rfl)
    have x3 := fun p : BelowBy wy => p.cell (BE.out.c 3 (v := .int .i64 e2) rfl)
    have x4 := fun p : BelowBy wy => p.cell (BE.out.c 4 (v := .int .i64 e3) rfl)
    have x5 := fun p : BelowBy wy => p.cell (BE.out.c 5 (v := .int .i64 e4) rfl)
    have x6 := fun p : BelowBy wy => p.cell (BE.out.c 6 (v := .int .i64 e5) rfl)
    have x7 := fun p : BelowBy wy => p.cell (BE.out.c 7 (v := .int .i64 e6) rfl)
    have P1 := hidIt (fun p : BelowBy wy => CS.out p.world (HR.out.kept p.h))
    have P2 := hidIt (fun p : BelowBy wy => CEI.out p.world ((HT.out.kept HB.out).kept p.h) ((H1.out.kept HB.out).kept p.h))
    refine wp_region_below (by kernel_rfl) (by kernel_rfl) ?_
    repeat (go_big_quiet_step (first | (go_at_call 8; exact calls_below (P1.out _)) | (go_at_call 9; exact calls_below (P2.out _)) | (go_at_call 10; exact calls_below (CES.out _))))
    refine wpQuiet_nil ?_
    intro _ hw'
    obtain ⟨pq, rfl⟩ := hw'
    have k := pq.h
    generalize pq.world = w4 at k ⊢
    replace BD := hidIt (BD.out.kept k)
    replace BS := hidIt (BS.out.kept k)
    replace HR := hidIt (HR.out.kept k)
    replace HB := hidIt (HB.out.trans (k.mono HB.out.size))
    clear k P1 P2 CS CEI CES BE c0 c1 c2 c3 c4 c5 c6 c7 d0 d1 d2 d3 d4 d5 x0 x1 x2 x3 x4 x5 x6 x7
    cases pv with
    | false =>
      go_wp2_with (fail)
      go_ret
      exact ⟨rfl, HB.out⟩
    | true =>
      obtain ⟨f1, f2, f3, f4, f5, f6, f7⟩ := HF.out rfl
      rw [← f3] at CD hrange
      rw [f6] at CH
      rw [f7] at CJ
      have HA1 := hidIt ((hall.out k1 k2).trans f1)
      have HA2 := hidIt ((hall.out S1 S2).trans f2)
      clear HF f1 f2 f3 f6 f7 hall
      have a0 := BD.out.c 1 (v := .slice (some ⟨gk, ko, none⟩) n kc) rfl
      go_wp2_with (fail)
      clear a0
      go_loopw [10, 11, 12] (fun p q y wx => ∃ (i : Nat) (A B : Bool), y = .int .i64 i ∧ i ≤ n ∧ p = .bool A ∧ q = .bool B ∧ Hid (hasB (L.take i) S1 S2 = A) ∧ Hid (hasB (L.take i) k1 k2 = B) ∧ Hid (Below w.heap.size w wx) ∧ Hid (Box wx b4 (dc zz (.slice (some ⟨gk, ko, none⟩) n kc) k1 k2 u r1 r2 t)) ∧ Hid (Box wx b5 (sc S1 S2 U S3 S4 S5)) ∧ Hid (Pt.Rd wx (some ⟨gk, ko, none⟩) L)) (fun _ _ y _ => (n - intOf y).toNat)
      case atStart => exact ⟨0, false, false, rfl, by omega, rfl, rfl, hidIt (by simp [hasB]), hidIt (by simp [hasB]), HB, BD, BS, HR⟩
      case round =>
        obtain ⟨i, A, B, rfl, hi, rfl, rfl, HA, HK, HB, BD, BS, HR⟩ := hrel
        have a1 := BD.out.c 1 (v := .slice (some ⟨gk, ko, none⟩) n kc) rfl
        rcases Nat.lt_or_ge i n with hin | hin
        · have g2 : (i : Int) < (n : Int) := by omega
          obtain ⟨_, _, er, c0, c1⟩ := HR.out.cell i (by rw [HL.out]; exact hin)
          cases er
          have HM1 := hidIt (hmore.out i S1 S2 hin)
          have HM2 := hidIt (hmore.out i k1 k2 hin)
          rw [HA.out] at HM1
          rw [HK.out] at HM2
          generalize lat L i = p at *
          obtain ⟨px, py⟩ := p
          simp only at c0 c1 HM1 HM2
          have a2 := BD.out.c 2 (v := .int .i64 k1) rfl
          have a3 := BD.out.c 3 (v := .int .i64 k2) rfl
          have s0 := BS.out.c 0 (v := .int .i64 S1) rfl
          have s1 := BS.out.c 1 (v := .int .i64 S2) rfl
          have HB' := hidIt (fun k => Go.Proofs.YtciikondckoboaaGreatDoor.Below.drewN HB.out k)
          have BD' : Hid (∀ k, Box (wr.drewN k) b4 (dc zz (.slice (some ⟨gk, ko, none⟩) n kc) k1 k2 u r1 r2 t)) := hidIt (fun k => ⟨BD.out.lt, BD.out.at', BD.out.fr⟩)
          have BS' : Hid (∀ k, Box (wr.drewN k) b5 (sc S1 S2 U S3 S4 S5)) := hidIt (fun k => ⟨BS.out.lt, BS.out.at', BS.out.fr⟩)
          have HR' : Hid (∀ k, Pt.Rd (wr.drewN k) (some ⟨gk, ko, none⟩) L) := hidIt (fun k => ⟨HR.out.cell⟩)
          clear HA HK HB BD BS HR
          go_upto_region 15 with fail
          cases A
          case' true => go_quiet (fail)
          case' false =>
            cases hq1 : (px == S1)
            case' false => go_quiet (fail)
            case' true =>
              cases hq2 : (py == S2)
              case' false => go_quiet (fail)
              case' true => go_quiet (fail)
          all_goals
            go_upto_region 16 with fail
            cases B
            case' true => go_quiet (fail)
            case' false =>
              cases hq3 : (px == k1)
              case' false => go_quiet (fail)
              case' true =>
                cases hq4 : (py == k2)
                case' false => go_quiet (fail)
                case' true => go_quiet (fail)
            all_goals
              go_wp2_with (fail)
              exact ⟨⟨i + 1, _, _, by simp, by omega, rfl, rfl, hidIt (by first | (rw [HM1.out, hq1, hq2]; rfl) | (rw [HM1.out, hq1]; rfl) | (rw [HM1.out]; rfl)), hidIt (by first | (rw [HM2.out, hq3, hq4]; rfl) | (rw [HM2.out, hq3]; rfl) | (rw [HM2.out]; rfl)), hidIt (HB'.out _), hidIt (BD'.out _), hidIt (BS'.out _), hidIt (HR'.out _)⟩, by simp [intOf]; omega⟩
        · have g2 : ¬ (i : Int) < (n : Int) := by omega
          have e : i = n := by omega
          subst e
          obtain rfl : A = true := HA.out.symm.trans HA2.out
          obtain rfl : B = true := HK.out.symm.trans HA1.out
          have hd1 : -9223372036854775808 ≤ ds + 1 := by omega
          have hd2 : ds + 1 ≤ 9223372036854775807 := by omega
          have hss : (ds == ds) = true := by simp
          have hg1 : u > now := f4
          have hg2 : U > now := f5
          clear HA HK HA1 HA2 hmore a1
          have c0 := BD.out.c 0 (v := .string zz) rfl
          have c1 := BD.out.c 1 (v := .slice (some ⟨gk, ko, none⟩) i kc) rfl
          have c2 := BD.out.c 2 (v := .int .i64 k1) rfl
          have c3 := BD.out.c 3 (v := .int .i64 k2) rfl
          have c4 := BD.out.c 4 (v := .int .i64 u) rfl
          have c5 := BD.out.c 5 (v := .int .i64 r1) rfl
          have c6 := BD.out.c 6 (v := .int .i64 r2) rfl
          have c7 := BD.out.c 7 (v := .int .i64 t) rfl
          have d0 := BS.out.c 0 (v := .int .i64 S1) rfl
          have d1 := BS.out.c 1 (v := .int .i64 S2) rfl
          have d2 := BS.out.c 2 (v := .int .i64 U) rfl
          have d3 := BS.out.c 3 (v := .int .i64 S3) rfl
          have d4 := BS.out.c 4 (v := .int .i64 S4) rfl
          have d5 := BS.out.c 5 (v := .int .i64 S5) rfl
          go_wp2_with (fail)
          refine (CD.out _ (HT.out.kept HB.out) (H1.out.kept HB.out)).mono ?_
          rintro e w5 ⟨rfl, k⟩
          replace BD := hidIt (BD.out.kept k)
          replace BS := hidIt (BS.out.kept k)
          replace HR := hidIt (HR.out.kept k)
          replace HB := hidIt (HB.out.trans (k.mono HB.out.size))
          clear k
          clear c0 c1 c2 c3 c4 c5 c6 c7 d0 d1 d2 d3 d4 d5
          have c0 := BD.out.c 0 (v := .string zz) rfl
          have c1 := BD.out.c 1 (v := .slice (some ⟨gk, ko, none⟩) i kc) rfl
          have c2 := BD.out.c 2 (v := .int .i64 k1) rfl
          have c3 := BD.out.c 3 (v := .int .i64 k2) rfl
          have c4 := BD.out.c 4 (v := .int .i64 u) rfl
          have c5 := BD.out.c 5 (v := .int .i64 r1) rfl
          have c6 := BD.out.c 6 (v := .int .i64 r2) rfl
          have c7 := BD.out.c 7 (v := .int .i64 t) rfl
          have d0 := BS.out.c 0 (v := .int .i64 S1) rfl
          have d1 := BS.out.c 1 (v := .int .i64 S2) rfl
          have d2 := BS.out.c 2 (v := .int .i64 U) rfl
          have d3 := BS.out.c 3 (v := .int .i64 S3) rfl
          have d4 := BS.out.c 4 (v := .int .i64 S4) rfl
          have d5 := BS.out.c 5 (v := .int .i64 S5) rfl
          go_wp2_with (fail)
          refine (CJ.out _ HR.out (HT.out.kept HB.out) (HY.out.kept HB.out) (H1.out.kept HB.out) (H2.out.kept HB.out) (H3.out.kept HB.out) (H4.out.kept HB.out)).mono ?_
          rintro e w6 ⟨rfl, k⟩
          replace BD := hidIt (BD.out.kept k)
          replace BS := hidIt (BS.out.kept k)
          replace HR := hidIt (HR.out.kept k)
          replace HB := hidIt (HB.out.trans (k.mono HB.out.size))
          clear k
          clear c0 c1 c2 c3 c4 c5 c6 c7 d0 d1 d2 d3 d4 d5
          have d0 := BS.out.c 0 (v := .int .i64 S1) rfl
          have d1 := BS.out.c 1 (v := .int .i64 S2) rfl
          have d2 := BS.out.c 2 (v := .int .i64 U) rfl
          have d3 := BS.out.c 3 (v := .int .i64 S3) rfl
          have d4 := BS.out.c 4 (v := .int .i64 S4) rfl
          have d5 := BS.out.c 5 (v := .int .i64 S5) rfl
          go_wp2_with (fail)
          refine (CH.out _ (HT.out.kept HB.out) (H1.out.kept HB.out) (H3.out.kept HB.out) (H4.out.kept HB.out)).mono ?_
          rintro e w7 ⟨rfl, k⟩
          replace BD := hidIt (BD.out.kept k)
          replace BS := hidIt (BS.out.kept k)
          replace HB := hidIt (HB.out.trans (k.mono HB.out.size))
          clear k
          clear d0 d1 d2 d3 d4 d5
          have c4 := BD.out.c 4 (v := .int .i64 u) rfl
          have d2 := BS.out.c 2 (v := .int .i64 U) rfl
          go_wp2_with (fail)
          go_ret
          exact ⟨rfl, HB.out⟩

theorem door_met (os : Os) (args : Array Value) : laidMetH Tryz.prog Rows.fnTrustRow.laid ((World.doorLaid Tryz.prog 107 os).forCall (fun _ _ => 0) ⟨#[], args, []⟩).memory :=
  laidMetH_of_parts3 (fuel := 8) (laidMet_of_run' 8 (by kernel_rfl) (by kernel_rfl)) (by kernel_rfl) (by kernel_rfl)
set_option maxRecDepth 100000 in
theorem lifted (os : Os) (started : os.Started) (H : Type) (enc : TypeId × Value → H) :
    ReturnsInHanded {} Tryz.checked os 3 .any (fun w args => (Rows.fnTrustSpec.pre enc Tryz.prog Tryz.f3 [] false w args ∧ laidMetH Tryz.prog Rows.fnTrustRow.laid w) ∧ sizedMet enc Tryz.prog Tryz.f3 (OpenSpec.ofChange Rows.fnTrustSpec) false w args) (Rows.fnTrustSpec.post enc Tryz.prog Tryz.f3 false true false false) := by
  refine returnsInHanded_of_change_and (C := Tryz.checked) (X := fun w _ => laidMetH Tryz.prog Rows.fnTrustRow.laid w) (fun _ _ _ hh h => h.of_heap hh) own started (by kernel_rfl) Tryz.func3
    (ChangeSpec.witness_shaped (enc := enc) (C := Tryz.checked) (os := os) (X := fun w _ => laidMetH Tryz.prog Rows.fnTrustRow.laid w) false (World.doorLaid Tryz.prog 107 os) #[.slice none 0 0] 8 rfl (World.shaped_of_RefB (by kernel_rfl) (by kernel_rfl)) (by kernel_rfl) (by kernel_rfl) (by kernel_rfl) (door_met os _)) ?_
  intro W base args ds gs before hval0 hW _ _ hL _
  have hval : ∀ (j : Nat) t v, Tryz.f3.params[j]? = some t → args[j]? = some v → Value.okWide Tryz.prog W .any base t v := hval0
  have hW' := hW
  obtain ⟨p, q, hA0, hV, rfl, hfz, hnd⟩ := hW
  have hA : DataW.TrodAll enc Tryz.prog W 0 (fun _ => true) true Tryz.f3.params.toList args.toList ds p := hA0
  rw [Tryz.params3] at hA hval
  obtain ⟨v0, vs0, d0, ds0, p0, q0, hargs, rfl, rfl, h0, r0⟩ := trodAll_cons hA
  obtain ⟨rfl, rfl, rfl⟩ := trodAll_nil r0
  obtain rfl : args = #[v0] := by cases args; simp_all
  have hL2 : laidMet Tryz.prog [("math/bits.deBruijn32tab", Rows.laid_math_bits_deBruijn32tab), ("math/bits.deBruijn64tab", Rows.laid_math_bits_deBruijn64tab), ("internal/strconv.uint64pow10", Rows.laid_internal_strconv_uint64pow10), ("loop.example/g00307/impl.errNone", Rows.laid_loop_example_g00307_impl_errNone), ("loop.example/g00307/impl.errMany", Rows.laid_loop_example_g00307_impl_errMany), ("loop.example/g00307/impl.errOther", Rows.laid_loop_example_g00307_impl_errOther), ("loop.example/g00307/impl.errOver", Rows.laid_loop_example_g00307_impl_errOver)] W ∧ handlesMet Tryz.prog [("errors.errorType", Rows.laid_errors_errorType)] W := hL
  have hP := hL2.1
  obtain ⟨e_errNone, s_errNone, hv_errNone, _, _, _⟩ := laid_sentinel (hP.tail.tail.tail) g_errNone t_errNone Tryz.underlying49 Se.row Tryz.underlying187 Tryz.underlying206 rfl rfl Tryz.underlying9 Se.cellsE Se.cellsS
  obtain ⟨e_errMany, s_errMany, hv_errMany, _, _, _⟩ := laid_sentinel (hP.tail.tail.tail.tail) g_errMany t_errMany Tryz.underlying49 Se.row Tryz.underlying187 Tryz.underlying206 rfl rfl Tryz.underlying9 Se.cellsE Se.cellsS
  obtain ⟨e_errOther, s_errOther, hv_errOther, _, _, _⟩ := laid_sentinel (hP.tail.tail.tail.tail.tail) g_errOther t_errOther Tryz.underlying49 Se.row Tryz.underlying187 Tryz.underlying206 rfl rfl Tryz.underlying9 Se.cellsE Se.cellsS
  obtain ⟨e_errOver, s_errOver, hv_errOver, _, _, _⟩ := laid_sentinel (hP.tail.tail.tail.tail.tail.tail) g_errOver t_errOver Tryz.underlying49 Se.row Tryz.underlying187 Tryz.underlying206 rfl rfl Tryz.underlying9 Se.cellsE Se.cellsS
  have hV1 : DataW.TrodVars enc Tryz.prog W (fun _ => true) ["loop.example/g00307/impl.errOther", "loop.example/g00307/impl.errNone", "loop.example/g00307/impl.errMany", "loop.example/g00307/impl.errOver"] gs q := hV
  obtain ⟨rfl, rfl⟩ := hV1.unique (Se.vars_cons enc g_errOther t_errOther hv_errOther trivial (Se.vars_cons enc g_errNone t_errNone hv_errNone trivial (Se.vars_cons enc g_errMany t_errMany hv_errMany trivial (Se.vars_cons enc g_errOver t_errOver hv_errOver trivial (Se.vars_nil enc _)))))
  have k0 := h0
  have lt0 : ∀ x ∈ p0, x.block < W.heap.size := by obtain ⟨m, hm⟩ := k0; exact DataW.trod_lt m _ _ _ hm
  obtain ⟨a0, len0, cap0, rfl⟩ := okWide_slice Tryz.underlying22 (hval 0 22 v0 rfl rfl)
  obtain ⟨z0, w0⟩ : ∃ zs, IsRow .u8 W a0 len0 cap0 zs := by
    obtain ⟨fuel, hf⟩ := h0
    rcases open_ints Tryz.underlying22 Tryz.underlying5 (by kernel_rfl) hf with ⟨hcs, _⟩ | ⟨x, l, c, zs, hcs, _, hl, hm, hz, _, hcell, hwz⟩
    · simp [Value.cells] at hcs
      obtain ⟨rfl, rfl, rfl⟩ := hcs
      exact ⟨[], .inl ⟨rfl, rfl, rfl, rfl⟩⟩
    · simp [Value.cells] at hcs
      obtain ⟨rfl, rfl, rfl⟩ := hcs
      exact ⟨zs, .inr ⟨_, rfl, hl, hm, by simpa using hz, hcell, hwz⟩⟩
  clear hA0 hval0
  refine (walk a0 len0 cap0 z0 e_errNone e_errMany e_errOther e_errOver W w0 (Sg.tab_of_plain hP) (Se.at_of_var g_errNone hv_errNone) (Se.at_of_var g_errMany hv_errMany) (Se.at_of_var g_errOther hv_errOther) (Se.at_of_var g_errOver hv_errOver) (Se.typ_of_met hL2.2)).mono fun e W' ⟨he, bel⟩ => ?_
  subst he
  exact ⟨_, rfl, _, _, _, [], _, [.cell 2 0, .cell 0 0, .cell 3 0, .cell 1 0], hW', trodAll_mk1 (shut_bool Tryz.underlying4 _), (trodAll_cons_mk (Below.trod laidOut (by kernel_rfl) (of_decide_eq_true (by kernel_rfl)) k0 bel lt0) trodAll_mk0), (Se.vars_cons enc g_errOther t_errOther (Se.var_kept hv_errOther bel) trivial (Se.vars_cons enc g_errNone t_errNone (Se.var_kept hv_errNone bel) trivial (Se.vars_cons enc g_errMany t_errMany (Se.var_kept hv_errMany bel) trivial (Se.vars_cons enc g_errOver t_errOver (Se.var_kept hv_errOver bel) trivial (Se.vars_nil enc _))))), bel.frame _, fun h => by cases h⟩

theorem over : Rows.fnTrustRow.holds Tryz.pinned (OpenSpec.ofChange Rows.fnTrustSpec) :=
  OpenClaim.holds_of_wide 3 Tryz.f3 rfl rfl rfl rfl rfl rfl rfl ⟨rfl, rfl, rfl, rfl, rfl⟩ rfl rfl rfl rfl rfl (by kernel_rfl) Tryz.func3 (by kernel_rfl)
    (of_decide_eq_true (by kernel_rfl)) (by unfold Func.isWrapper; first | (rw [if_pos (by decide +kernel)]; kernel_rfl) | (rw [if_neg (by decide +kernel)]; exact ⟨rfl, rfl⟩))
    (fun os started H enc _ => lifted os started H enc)
theorem card : Rows.FnTrustCardSaid :=
  Claim7.holds_tied_plain_at .later [] [.data, .data, .data, .handle, .sentinel, .sentinel, .sentinel, .sentinel] true (true, "409ae68694f88f4960b3403d3b7944f6e959971edc02343518bd5d111f830c95") true
    over (fun _ h => by cases h) (by kernel_rfl) (fun _ h => by cases h) fnTrust_row_tie rfl ⟨rfl, rfl⟩ (by kernel_rfl) rfl
    (fun f fn hf hfn => by
      obtain rfl : f = 3 := Option.some.inj ((show Tryz.prog.funcNamed "loop.example/g00307/laws.FnTrust" = some 3 by kernel_rfl).symm.trans hf) |>.symm
      obtain rfl : fn = Tryz.f3 := (Option.some.inj (Tryz.func3.symm.trans hfn)).symm
      exact ⟨by kernel_rfl, fun j t ht => by
        rw [Tryz.params3] at ht
        have hm : t ∈ [22] := by simpa using Array.mem_of_getElem? ht
        have hall : ([22].all fun u => !Tryz.prog.wantsStandIn u) = true := by kernel_rfl
        exact (show Tryz.prog.wantsStandIn t = false by simpa using List.all_eq_true.1 hall t hm)⟩)
    (by kernel_rfl)
end Go.Proofs.YtciikondckoboaaGreatDoor.fnTrust
namespace Go.Proofs.YtciikondckoboaaGreatDoor
theorem fnTrust_holds : Rows.FnTrustCardSaid := fnTrust.card
#print axioms fnTrust_holds
end Go.Proofs.YtciikondckoboaaGreatDoor
