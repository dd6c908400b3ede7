/-
  FnLongest answers true at every slice of bytes and leaves it as it was: RuleFor and May of the program answer as the specification's at what is drawn; the Rule for a key has the longest Prefix of all with which it begins, and without one nothing may be. No condition.
-/
import Derived.Test.YtdgnjhppggemhaaRows
import Derived.WalkKit
import Derived.ProofKit
import Derived.OpenShut
import Derived.ShutString
import Derived.ChangeOld
import Derived.Below
import Derived.Lib.SmallJoins
import Derived.Test.YtdgnjhppggemhaaRuY
import Derived.Laws.StructEq
import Derived.Deep.QuietTactic
import Derived.BigQuiet
import Derived.WideLaws
namespace Go.Proofs.Ytdgnjhppggemhaa.fnLongest
open Go.ChangeShapes Go.WideShapes Go.ChangeAt Go.RowKit Go.Joins
set_option linter.unusedVariables false

theorem own : ownKnob Try.prog.godebug = none := by kernel_rfl
theorem laidOut : laidOutB Try.prog = true := by kernel_rfl
/-- A row of integers that came in: nil, or cells at an address. -/
def IsRow (k : IntKind) (w : World) (a : Option Addr) (len cap : Nat) (zs : List Int) : Prop :=
  (a = none ∧ len = 0 ∧ cap = 0 ∧ zs = []) ∨
  ∃ x, a = some x ∧ len ≤ cap ∧ cap ≤ maxLen ∧ zs.length = cap ∧ (∀ i, i < zs.length → w.cell? (x.add i) = some (.int k (zs.getD i 0))) ∧ ∀ n ∈ zs, (Lit.int k n).wf = true
open Ru
open Go.Proofs.Ytdgnjhppggemhaa.Rc (BelowBy BelowBy.one wp_region_below calls_below calls_same)
theorem code_of {w : World} {a : Option Addr} {len cap : Nat} {zs : List Int} (h : IsRow .u8 w a len cap zs) : Dr.Code w.heap.size w a len := by
  refine ⟨fun i hi => ?_⟩
  rcases h with ⟨rfl, rfl, rfl, rfl⟩ | ⟨x, rfl, hl, hm, hz, hcell, hwz⟩
  · omega
  · have hc := hcell i (by omega)
    obtain ⟨b, off, spot⟩ := x
    have h00 := hcell 0 (by omega)
    have hspot : spot = none := by simpa [Addr.add] using World.cell?_spot h00
    subst hspot
    have hc0 : w.cell? ⟨b, off + i, none⟩ = some (.int .u8 (zs.getD i 0)) := by
      by_cases e : i = 0
      · subst e; simpa [Addr.add] using hc
      · simpa [Addr.add, e] using hc
    have hw := hwz (zs.getD i 0) (by rw [List.getD_eq_getElem?_getD, List.getElem?_eq_getElem (by omega)]; simp)
    have hb : b < w.heap.size := by
      refine Decidable.byContradiction fun hn => ?_
      have hx : w.heap[b]? = none := by simp; omega
      simp [World.cell?, hx] at hc0
    have hbd := bounds_u8 hw
    exact ⟨b, off, _, rfl, hb, hc0, hbd.1, hbd.2⟩
set_option maxRecDepth 100000 in
set_option maxHeartbeats 16000000 in

theorem walk (a0 : Option Addr) (len0 cap0 : Nat) (z0 : List Int) (w : World) (w0 : IsRow .u8 w a0 len0 cap0 z0) :
    Calls Try.prog 3 #[.slice a0 len0 cap0] w fun e w' => e = .returned (.bool true) ∧ Below w.heap.size w w' := by
  have HC := hidIt (code_of w0)
  clear w0
  have cbig := big_any a0 len0 cap0
  by_cases hbig : 4096 < len0
  · rw [decide_eq_true (show (4096 : Int) < (len0 : Int) by omega)] at cbig
    have CBig := hidIt cbig
    clear cbig
    go_enter Try.func3, Try.ntmps3
    go_wp2_with (fail)
    refine (CBig.out _).mono ?_
    rintro e w1 ⟨rfl, hz⟩
    rw [hz]
    clear hz
    go_wp2_with (fail)
    go_ret
    exact ⟨rfl, Below.refl _ _⟩
  have hl : len0 ≤ 4096 := by omega
  rw [decide_eq_false (show ¬ (4096 : Int) < (len0 : Int) by omega)] at cbig
  have CBig := hidIt cbig
  clear cbig hbig
  go_enter Try.func3, Try.ntmps3
  go_wp2_with (fail)
  refine (CBig.out _).mono ?_
  rintro e w1 ⟨rfl, hz⟩
  rw [hz]
  clear hz CBig w1
  go_wp2_with (fail)
  refine (DrawRuleFor_any a0 len0 cap0 w HC.out hl).mono ?_
  rintro e w1 ⟨v, key, L, rfl, tL, hkey, oL, k1⟩
  obtain ⟨aL, cL, ev, _, _, rL, _⟩ := oL.form
  subst ev
  have hLn := tL.len
  have C1 := hidIt (fun W (r : Rd W aL L) => impl_RuleFor aL cL L key W r (by omega) tL.short (by omega))
  have C2 := hidIt (fun W (r : Rd W aL L) => spec_RuleFor aL cL L key W r (by omega) tL.short (by omega))
  have C3 := hidIt (fun W (r : Rd W aL L) => spec_RulesOk aL cL L W r (by omega) tL.short)
  have C4 := hidIt (fun W (r : Rd W aL L) => impl_May aL cL L key false W r (by omega) tL.short (by omega))
  have C5 := hidIt (fun W (r : Rd W aL L) => impl_May aL cL L key true W r (by omega) tL.short (by omega))
  have P1 : Hid (okR L = false → (forR L (bs key)).isSome = false) := hidIt (fun e => by rw [for_bad e]; rfl)
  have P2 : Hid (∀ i, i < L.length → okR L = true → fit (bs (rat L i).1) (bs key) = true → (forR L (bs key)).isSome = true ∧ (rat L i).1.size ≤ ((forR L (bs key)).getD zr).1.size) := hidIt (fun i hi ho hf => fit_for ho hi hf)
  have P3 : Hid ((forR L (bs key)).isSome = true → ∃ j, j < L.length ∧ fit (bs (rat L j).1) (bs key) = true ∧ rat L j = (forR L (bs key)).getD zr) := hidIt for_one
  have P4 : Hid ((forR L (bs key)).isSome = false → mayR L (bs key) false = false ∧ mayR L (bs key) true = false) := hidIt (fun e => ⟨may_of_none e, may_of_none e⟩)
  have P5 : Hid (((forR L (bs key)).getD zr).1.size ≤ 9223372036854775807) := hidIt (by
    cases e : (forR L (bs key)).isSome with
    | false =>
      cases e' : forR L (bs key) with
      | none => show (0 : Nat) ≤ _; omega
      | some _ => rw [e'] at e; cases e
    | true =>
      obtain ⟨j, hj, _, e2⟩ := for_one e
      rw [← e2]
      exact tL.short j hj)
  have PS := hidIt tL.short
  generalize (forR L (bs key)).isSome = is at C1 C2 P1 P2 P3 P4
  generalize (forR L (bs key)).getD zr = r at C1 C2 P2 P3 P5
  generalize okR L = ok at C3 P1 P2
  generalize mayR L (bs key) false = m1 at C4 P4
  generalize mayR L (bs key) true = m2 at C5 P4
  generalize hn : L.length = n at *
  have HN := hidIt hn
  clear hn tL oL
  have RL := hidIt rL
  have KB := hidIt k1
  clear rL k1
  obtain ⟨r0, r1, r2⟩ := r
  simp only [rv] at C1 C2
  go_wp2_with (fail)
  refine (C1.out _ RL.out).mono ?_
  rintro e w2 ⟨rfl, kk⟩
  replace RL := hidIt (RL.out.kept kk)
  replace KB := hidIt (KB.out.trans (kk.mono KB.out.size))
  clear kk C1
  have BX := hidIt (Bo.Box.new w2 #[.string r0, .bool r1, .bool r2] 28)
  replace RL := hidIt (RL.out.alloc (.cells #[.string r0, .bool r1, .bool r2] 28))
  replace KB := hidIt (KB.out.alloc KB.out.size (.cells #[.string r0, .bool r1, .bool r2] 28))
  go_wp2_with (fail)
  generalize w2.alloc (.cells #[.string r0, .bool r1, .bool r2] 28) = w3 at BX RL KB ⊢
  generalize w2.heap.size = g at BX ⊢
  refine (DrawMay_any a0 len0 cap0 w3 (code_at HC.out KB.out) hl).mono ?_
  rintro e w4 ⟨v, key2, b, M, rfl, tM, hkey2, oM, kk⟩
  obtain ⟨aM, cM, ev, _, _, rM, _⟩ := oM.form
  subst ev
  have hMn := tM.len
  have ST := hidIt (St.mk (w0 := w) (KB.out.trans (kk.mono KB.out.size)) (RL.out.kept kk) rM)
  replace BX := hidIt (BX.out.kept kk)
  have D1 := hidIt (fun W (r : Rd W aM M) => impl_May aM cM M key2 b W r (by omega) tM.short (by omega))
  have D2 := hidIt (fun W (r : Rd W aM M) => spec_May aM cM M key2 b W r (by omega) tM.short (by omega))
  have D3 := hidIt (fun W (r : Rd W aM M) => impl_RuleFor aM cM M key2 W r (by omega) tM.short (by omega))
  have Q1 : Hid (mayR M (bs key2) b = true → (forR M (bs key2)).isSome = true ∧ (if b then ((forR M (bs key2)).getD zr).2.2 else ((forR M (bs key2)).getD zr).2.1) = true) := hidIt may_says
  generalize mayR M (bs key2) b = my at D1 D2 Q1
  generalize (forR M (bs key2)).isSome = is2 at D3 Q1
  generalize (forR M (bs key2)).getD zr = q at D3 Q1
  generalize M.length = nm at *
  obtain ⟨q0, q1, q2⟩ := q
  simp only [rv] at D3
  clear kk tM oM rM RL KB HC
  go_wp2_with (fail)
  refine (C2.out _ ST.out.l).mono ?_
  rintro e w5 ⟨rfl, kk⟩
  replace ST := hidIt (ST.out.kept kk)
  replace BX := hidIt (BX.out.kept kk)
  clear kk C2
  have BY := hidIt (Bo.Box.new w5 #[.string r0, .bool r1, .bool r2] 28)
  replace BX := hidIt (BX.out.alloc (.cells #[.string r0, .bool r1, .bool r2] 28))
  replace ST := hidIt (ST.out.alloc (.cells #[.string r0, .bool r1, .bool r2] 28))
  have e1 : (is != is) = false := by cases is <;> rfl
  have e2 : (my != my) = false := by cases my <;> rfl
  have e3 : (r0.toList == r0.toList) = true := by simp
  have e4 : (r1 == r1) = true := by simp
  have e5 : (r2 == r2) = true := by simp
  have f0 := BX.out.c 0 rfl
  have f1 := BX.out.c 1 rfl
  have f2 := BX.out.c 2 rfl
  go_wp2_with (fail)
  generalize w5.alloc (.cells #[.string r0, .bool r1, .bool r2] 28) = w6 at BX BY ST f0 f1 f2 ⊢
  generalize w5.heap.size = g2 at BY ⊢
  clear f0 f1 f2
  refine (D1.out _ ST.out.m).mono ?_
  rintro e w7 ⟨rfl, kk⟩
  replace ST := hidIt (ST.out.kept kk)
  replace BX := hidIt (BX.out.kept kk)
  clear kk BY
  go_wp2_with (fail)
  refine (D2.out _ ST.out.m).mono ?_
  rintro e w8 ⟨rfl, kk⟩
  replace ST := hidIt (ST.out.kept kk)
  replace BX := hidIt (BX.out.kept kk)
  clear kk D2
  go_wp2_with (fail)
  refine (D1.out _ ST.out.m).mono ?_
  rintro e w9 ⟨rfl, kk⟩
  replace ST := hidIt (ST.out.kept kk)
  replace BX := hidIt (BX.out.kept kk)
  clear kk D1
  have key_ : ∀ (Q : Prop), (my = false → Q) → (my = true → b = false → Q) → (my = true → b = true → Q) → Q := fun Q x y z => by
    cases my with
    | false => exact x rfl
    | true =>
      cases b with
      | false => exact y rfl rfl
      | true => exact z rfl rfl
  refine key_ _ (fun em => ?_) (fun em eb => ?_) (fun em eb => ?_)
  case refine_1 =>
    subst em
    go_wp2_with (fail)
    refine (C3.out _ ST.out.l).mono ?_
    rintro e wx1 ⟨rfl, kk⟩
    replace ST := hidIt (ST.out.kept kk)
    replace BX := hidIt (BX.out.kept kk)
    clear kk C3
    cases ok with
    | false =>
      have ei := P1.out rfl
      subst ei
      go_wp2_with (fail)
      go_ret
      exact ⟨rfl, ST.out.k⟩
    | true =>
      go_wp2_with (fail)
      go_loopw [14, 15] (fun y z wx => ∃ (i : Nat) (fd : Bool), y = .bool fd ∧ z = .int .i64 i ∧ i ≤ n ∧ Hid (fd = true → is = true) ∧ Hid (∀ j, j < i → fit (bs (rat L j).1) (bs key) = true → rat L j = (r0, r1, r2) → fd = true) ∧ Hid (St w aL aM L M wx) ∧ Hid (Bo.Box wx g #[.string r0, .bool r1, .bool r2])) (fun _ z _ => (n - intOf z).toNat)
      case atStart => exact ⟨0, false, rfl, rfl, by omega, hidIt (fun h => by cases h), hidIt (fun j hj => by omega), ST, BX⟩
      case round =>
        clear ST BX
        obtain ⟨i, fd, rfl, rfl, hi, HF1, HF2, ST, BX⟩ := hrel
        by_cases hin : i < n
        · have hin' : (i : Int) < (n : Int) := by omega
          obtain ⟨bl, off, ea, c0, c1, c2⟩ := ST.out.l.all (i := i) (by rw [HN.out]; exact hin)
          subst ea
          have hys := PS.out i hin
          have HP2 := hidIt (P2.out i hin (by first | exact rfl | exact trivial))
          have HF3 : Hid (∀ fd' : Bool, (fd = true → fd' = true) → (fit (bs (rat L i).1) (bs key) = true → rat L i = (r0, r1, r2) → fd' = true) → ∀ j, j < i + 1 → fit (bs (rat L j).1) (bs key) = true → rat L j = (r0, r1, r2) → fd' = true) := hidIt (fun fd' h0 h1 j hj hf he => by
            rcases Nat.lt_succ_iff_lt_or_eq.1 hj with h | h
            · exact h0 (HF2.out j h hf he)
            · subst h; exact h1 hf he)
          generalize rat L i = y at c0 c1 c2 hys HP2 HF3
          obtain ⟨y0, y1, y2⟩ := y
          simp only at c0 c1 c2 hys HP2 HF3
          have f0 := BX.out.c 0 rfl
          have f1 := BX.out.c 1 rfl
          have f2 := BX.out.c 2 rfl
          by_cases hlen : y0.size ≤ key.size
          · have hlen' : (y0.size : Int) ≤ (key.size : Int) := by omega
            have hft := fit_text y0 key
            cases hb : ((key.extract 0 y0.size).toList == y0.toList) with
            | false =>
              rw [hb] at hft
              have HF4 := hidIt (HF3.out fd id (fun h => by rw [hft] at h; cases h))
              clear hft
              go_wp2_with (fail)
              exact ⟨⟨i + 1, fd, rfl, by simp, by omega, HF1, HF4, ST, BX⟩, by simp [intOf]; omega⟩
            | true =>
              rw [hb] at hft
              obtain ⟨ei, hsz⟩ := HP2.out hft
              subst ei
              clear hft
              have hp5 := P5.out
              have hsz' : ¬ (r0.size : Int) < (y0.size : Int) := by omega
              have STn := hidIt (fun x => ST.out.kept (Go.Proofs.Ytdgnjhppggemhaa.Below.drewN (Below.refl wr.heap.size wr) x))
              have BXn := hidIt (fun x => BX.out.kept (Go.Proofs.Ytdgnjhppggemhaa.Below.drewN (Below.refl wr.heap.size wr) x))
              cases fd with
              | true =>
                have HF4 := hidIt (HF3.out true id (fun _ _ => rfl))
                go_wp2_with (fail)
                go_quiet (fail)
                go_wp2_with (fail)
                exact ⟨⟨i + 1, true, rfl, by simp, by omega, hidIt (fun _ => by first | exact rfl | exact trivial), hidIt (fun _ _ _ _ => by first | exact rfl | exact trivial), hidIt (STn.out _), hidIt (BXn.out _)⟩, by simp [intOf]; omega⟩
              | false =>
                rcases rw_cases (y0, y1, y2) (r0, r1, r2) with e | e | ⟨e, e'⟩ | ⟨e, e', e''⟩
                · simp only [Prod.mk.injEq] at e
                  obtain ⟨rfl, rfl, rfl⟩ := e
                  have HF4 := hidIt (HF3.out true (fun h => by cases h) (fun _ _ => rfl))
                  have HF5 : Hid (true = true → true = true) := hidIt (fun _ => rfl)
                  have z0 : (y0.toList == y0.toList) = true := by simp
                  have z1 : (y1 == y1) = true := by simp
                  have z2 : (y2 == y2) = true := by simp
                  go_wp2_with (fail)
                  go_quiet (fail)
                  go_wp2_with (fail)
                  exact ⟨⟨i + 1, true, rfl, by simp, by omega, hidIt (fun _ => by first | exact rfl | exact trivial), hidIt (fun _ _ _ _ => by first | exact rfl | exact trivial), hidIt (STn.out _), hidIt (BXn.out _)⟩, by simp [intOf]; omega⟩
                · have HF4 := hidIt (HF3.out false id (fun _ h => by simp only [Prod.mk.injEq] at h; rw [h.1] at e; simp at e))
                  simp only at e
                  go_wp2_with (fail)
                  go_quiet (fail)
                  go_wp2_with (fail)
                  exact ⟨⟨i + 1, false, rfl, by simp, by omega, HF1, HF4, hidIt (STn.out _), hidIt (BXn.out _)⟩, by simp [intOf]; omega⟩
                · have HF4 := hidIt (HF3.out false id (fun _ h => by simp only [Prod.mk.injEq] at h; simp only at e'; rw [h.2.1] at e'; simp at e'))
                  simp only at e e'
                  subst e
                  have z0 : (y0.toList == y0.toList) = true := by simp
                  go_wp2_with (fail)
                  go_quiet (fail)
                  go_wp2_with (fail)
                  exact ⟨⟨i + 1, false, rfl, by simp, by omega, HF1, HF4, hidIt (STn.out _), hidIt (BXn.out _)⟩, by simp [intOf]; omega⟩
                · have HF4 := hidIt (HF3.out false id (fun _ h => by simp only [Prod.mk.injEq] at h; simp only at e''; rw [h.2.2] at e''; simp at e''))
                  simp only at e e' e''
                  subst e e'
                  have z0 : (y0.toList == y0.toList) = true := by simp
                  have z1 : (y1 == y1) = true := by simp
                  go_wp2_with (fail)
                  go_quiet (fail)
                  go_wp2_with (fail)
                  exact ⟨⟨i + 1, false, rfl, by simp, by omega, HF1, HF4, hidIt (STn.out _), hidIt (BXn.out _)⟩, by simp [intOf]; omega⟩
          · have hlen' : ¬ (y0.size : Int) ≤ (key.size : Int) := by omega
            have hft := fit_long hlen
            have HF4 := hidIt (HF3.out fd id (fun h => by rw [hft] at h; cases h))
            clear hft
            go_wp2_with (fail)
            exact ⟨⟨i + 1, fd, rfl, by simp, by omega, HF1, HF4, ST, BX⟩, by simp [intOf]; omega⟩
        · have hin' : ¬ (i : Int) < (n : Int) := by omega
          have HI : Hid (i = n) := hidIt (by omega)
          cases is with
          | true =>
            have ef : fd = true := by
              obtain ⟨j, hj, hf, he⟩ := P3.out rfl
              exact HF2.out j (by rw [HI.out]; exact hj) hf he
            subst ef
            go_wp2_with (fail)
            go_ret
            exact ⟨rfl, ST.out.k⟩
          | false =>
            have ef : fd = false := by
              cases fd with
              | false => rfl
              | true => have := HF1.out rfl; cases this
            obtain ⟨em1, em2⟩ := P4.out rfl
            subst ef em1 em2
            go_wp2_with (fail)
            refine (C4.out _ ST.out.l).mono ?_
            rintro e wx2 ⟨rfl, kk⟩
            replace ST := hidIt (ST.out.kept kk)
            clear kk
            go_wp2_with (fail)
            refine (C5.out _ ST.out.l).mono ?_
            rintro e wx3 ⟨rfl, kk⟩
            replace ST := hidIt (ST.out.kept kk)
            clear kk
            go_wp2_with (fail)
            go_ret
            exact ⟨rfl, ST.out.k⟩
  case refine_2 =>
    subst em eb
    obtain ⟨ei, eq⟩ := Q1.out rfl
    replace eq : q1 = true := eq
    subst ei eq
    go_wp2_with (fail)
    refine (D3.out _ ST.out.m).mono ?_
    rintro e wA ⟨rfl, kk⟩
    replace ST := hidIt (ST.out.kept kk)
    replace BX := hidIt (BX.out.kept kk)
    clear kk D3
    replace ST := hidIt (ST.out.alloc (.cells #[.string q0, .bool true, .bool q2] 28))
    replace BX := hidIt (BX.out.alloc (.cells #[.string q0, .bool true, .bool q2] 28))
    go_wp2_with (fail)
    generalize wA.alloc (.cells #[.string q0, .bool true, .bool q2] 28) = wB at ST BX ⊢
    refine (C3.out _ ST.out.l).mono ?_
    rintro e wx1 ⟨rfl, kk⟩
    replace ST := hidIt (ST.out.kept kk)
    replace BX := hidIt (BX.out.kept kk)
    clear kk C3
    cases ok with
    | false =>
      have ei := P1.out rfl
      subst ei
      go_wp2_with (fail)
      go_ret
      exact ⟨rfl, ST.out.k⟩
    | true =>
      go_wp2_with (fail)
      go_loopw [14, 15] (fun y z wx => ∃ (i : Nat) (fd : Bool), y = .bool fd ∧ z = .int .i64 i ∧ i ≤ n ∧ Hid (fd = true → is = true) ∧ Hid (∀ j, j < i → fit (bs (rat L j).1) (bs key) = true → rat L j = (r0, r1, r2) → fd = true) ∧ Hid (St w aL aM L M wx) ∧ Hid (Bo.Box wx g #[.string r0, .bool r1, .bool r2])) (fun _ z _ => (n - intOf z).toNat)
      case atStart => exact ⟨0, false, rfl, rfl, by omega, hidIt (fun h => by cases h), hidIt (fun j hj => by omega), ST, BX⟩
      case round =>
        clear ST BX
        obtain ⟨i, fd, rfl, rfl, hi, HF1, HF2, ST, BX⟩ := hrel
        by_cases hin : i < n
        · have hin' : (i : Int) < (n : Int) := by omega
          obtain ⟨bl, off, ea, c0, c1, c2⟩ := ST.out.l.all (i := i) (by rw [HN.out]; exact hin)
          subst ea
          have hys := PS.out i hin
          have HP2 := hidIt (P2.out i hin (by first | exact rfl | exact trivial))
          have HF3 : Hid (∀ fd' : Bool, (fd = true → fd' = true) → (fit (bs (rat L i).1) (bs key) = true → rat L i = (r0, r1, r2) → fd' = true) → ∀ j, j < i + 1 → fit (bs (rat L j).1) (bs key) = true → rat L j = (r0, r1, r2) → fd' = true) := hidIt (fun fd' h0 h1 j hj hf he => by
            rcases Nat.lt_succ_iff_lt_or_eq.1 hj with h | h
            · exact h0 (HF2.out j h hf he)
            · subst h; exact h1 hf he)
          generalize rat L i = y at c0 c1 c2 hys HP2 HF3
          obtain ⟨y0, y1, y2⟩ := y
          simp only at c0 c1 c2 hys HP2 HF3
          have f0 := BX.out.c 0 rfl
          have f1 := BX.out.c 1 rfl
          have f2 := BX.out.c 2 rfl
          by_cases hlen : y0.size ≤ key.size
          · have hlen' : (y0.size : Int) ≤ (key.size : Int) := by omega
            have hft := fit_text y0 key
            cases hb : ((key.extract 0 y0.size).toList == y0.toList) with
            | false =>
              rw [hb] at hft
              have HF4 := hidIt (HF3.out fd id (fun h => by rw [hft] at h; cases h))
              clear hft
              go_wp2_with (fail)
              exact ⟨⟨i + 1, fd, rfl, by simp, by omega, HF1, HF4, ST, BX⟩, by simp [intOf]; omega⟩
            | true =>
              rw [hb] at hft
              obtain ⟨ei, hsz⟩ := HP2.out hft
              subst ei
              clear hft
              have hp5 := P5.out
              have hsz' : ¬ (r0.size : Int) < (y0.size : Int) := by omega
              have STn := hidIt (fun x => ST.out.kept (Go.Proofs.Ytdgnjhppggemhaa.Below.drewN (Below.refl wr.heap.size wr) x))
              have BXn := hidIt (fun x => BX.out.kept (Go.Proofs.Ytdgnjhppggemhaa.Below.drewN (Below.refl wr.heap.size wr) x))
              cases fd with
              | true =>
                have HF4 := hidIt (HF3.out true id (fun _ _ => rfl))
                go_wp2_with (fail)
                go_quiet (fail)
                go_wp2_with (fail)
                exact ⟨⟨i + 1, true, rfl, by simp, by omega, hidIt (fun _ => by first | exact rfl | exact trivial), hidIt (fun _ _ _ _ => by first | exact rfl | exact trivial), hidIt (STn.out _), hidIt (BXn.out _)⟩, by simp [intOf]; omega⟩
              | false =>
                rcases rw_cases (y0, y1, y2) (r0, r1, r2) with e | e | ⟨e, e'⟩ | ⟨e, e', e''⟩
                · simp only [Prod.mk.injEq] at e
                  obtain ⟨rfl, rfl, rfl⟩ := e
                  have HF4 := hidIt (HF3.out true (fun h => by cases h) (fun _ _ => rfl))
                  have HF5 : Hid (true = true → true = true) := hidIt (fun _ => rfl)
                  have z0 : (y0.toList == y0.toList) = true := by simp
                  have z1 : (y1 == y1) = true := by simp
                  have z2 : (y2 == y2) = true := by simp
                  go_wp2_with (fail)
                  go_quiet (fail)
                  go_wp2_with (fail)
                  exact ⟨⟨i + 1, true, rfl, by simp, by omega, hidIt (fun _ => by first | exact rfl | exact trivial), hidIt (fun _ _ _ _ => by first | exact rfl | exact trivial), hidIt (STn.out _), hidIt (BXn.out _)⟩, by simp [intOf]; omega⟩
                · have HF4 := hidIt (HF3.out false id (fun _ h => by simp only [Prod.mk.injEq] at h; rw [h.1] at e; simp at e))
                  simp only at e
                  go_wp2_with (fail)
                  go_quiet (fail)
                  go_wp2_with (fail)
                  exact ⟨⟨i + 1, false, rfl, by simp, by omega, HF1, HF4, hidIt (STn.out _), hidIt (BXn.out _)⟩, by simp [intOf]; omega⟩
                · have HF4 := hidIt (HF3.out false id (fun _ h => by simp only [Prod.mk.injEq] at h; simp only at e'; rw [h.2.1] at e'; simp at e'))
                  simp only at e e'
                  subst e
                  have z0 : (y0.toList == y0.toList) = true := by simp
                  go_wp2_with (fail)
                  go_quiet (fail)
                  go_wp2_with (fail)
                  exact ⟨⟨i + 1, false, rfl, by simp, by omega, HF1, HF4, hidIt (STn.out _), hidIt (BXn.out _)⟩, by simp [intOf]; omega⟩
                · have HF4 := hidIt (HF3.out false id (fun _ h => by simp only [Prod.mk.injEq] at h; simp only at e''; rw [h.2.2] at e''; simp at e''))
                  simp only at e e' e''
                  subst e e'
                  have z0 : (y0.toList == y0.toList) = true := by simp
                  have z1 : (y1 == y1) = true := by simp
                  go_wp2_with (fail)
                  go_quiet (fail)
                  go_wp2_with (fail)
                  exact ⟨⟨i + 1, false, rfl, by simp, by omega, HF1, HF4, hidIt (STn.out _), hidIt (BXn.out _)⟩, by simp [intOf]; omega⟩
          · have hlen' : ¬ (y0.size : Int) ≤ (key.size : Int) := by omega
            have hft := fit_long hlen
            have HF4 := hidIt (HF3.out fd id (fun h => by rw [hft] at h; cases h))
            clear hft
            go_wp2_with (fail)
            exact ⟨⟨i + 1, fd, rfl, by simp, by omega, HF1, HF4, ST, BX⟩, by simp [intOf]; omega⟩
        · have hin' : ¬ (i : Int) < (n : Int) := by omega
          have HI : Hid (i = n) := hidIt (by omega)
          cases is with
          | true =>
            have ef : fd = true := by
              obtain ⟨j, hj, hf, he⟩ := P3.out rfl
              exact HF2.out j (by rw [HI.out]; exact hj) hf he
            subst ef
            go_wp2_with (fail)
            go_ret
            exact ⟨rfl, ST.out.k⟩
          | false =>
            have ef : fd = false := by
              cases fd with
              | false => rfl
              | true => have := HF1.out rfl; cases this
            obtain ⟨em1, em2⟩ := P4.out rfl
            subst ef em1 em2
            go_wp2_with (fail)
            refine (C4.out _ ST.out.l).mono ?_
            rintro e wx2 ⟨rfl, kk⟩
            replace ST := hidIt (ST.out.kept kk)
            clear kk
            go_wp2_with (fail)
            refine (C5.out _ ST.out.l).mono ?_
            rintro e wx3 ⟨rfl, kk⟩
            replace ST := hidIt (ST.out.kept kk)
            clear kk
            go_wp2_with (fail)
            go_ret
            exact ⟨rfl, ST.out.k⟩
  case refine_3 =>
    subst em eb
    obtain ⟨ei, eq⟩ := Q1.out rfl
    replace eq : q2 = true := eq
    subst ei eq
    go_wp2_with (fail)
    refine (D3.out _ ST.out.m).mono ?_
    rintro e wA ⟨rfl, kk⟩
    replace ST := hidIt (ST.out.kept kk)
    replace BX := hidIt (BX.out.kept kk)
    clear kk D3
    replace ST := hidIt (ST.out.alloc (.cells #[.string q0, .bool q1, .bool true] 28))
    replace BX := hidIt (BX.out.alloc (.cells #[.string q0, .bool q1, .bool true] 28))
    go_wp2_with (fail)
    generalize wA.alloc (.cells #[.string q0, .bool q1, .bool true] 28) = wB at ST BX ⊢
    refine (C3.out _ ST.out.l).mono ?_
    rintro e wx1 ⟨rfl, kk⟩
    replace ST := hidIt (ST.out.kept kk)
    replace BX := hidIt (BX.out.kept kk)
    clear kk C3
    cases ok with
    | false =>
      have ei := P1.out rfl
      subst ei
      go_wp2_with (fail)
      go_ret
      exact ⟨rfl, ST.out.k⟩
    | true =>
      go_wp2_with (fail)
      go_loopw [14, 15] (fun y z wx => ∃ (i : Nat) (fd : Bool), y = .bool fd ∧ z = .int .i64 i ∧ i ≤ n ∧ Hid (fd = true → is = true) ∧ Hid (∀ j, j < i → fit (bs (rat L j).1) (bs key) = true → rat L j = (r0, r1, r2) → fd = true) ∧ Hid (St w aL aM L M wx) ∧ Hid (Bo.Box wx g #[.string r0, .bool r1, .bool r2])) (fun _ z _ => (n - intOf z).toNat)
      case atStart => exact ⟨0, false, rfl, rfl, by omega, hidIt (fun h => by cases h), hidIt (fun j hj => by omega), ST, BX⟩
      case round =>
        clear ST BX
        obtain ⟨i, fd, rfl, rfl, hi, HF1, HF2, ST, BX⟩ := hrel
        by_cases hin : i < n
        · have hin' : (i : Int) < (n : Int) := by omega
          obtain ⟨bl, off, ea, c0, c1, c2⟩ := ST.out.l.all (i := i) (by rw [HN.out]; exact hin)
          subst ea
          have hys := PS.out i hin
          have HP2 := hidIt (P2.out i hin (by first | exact rfl | exact trivial))
          have HF3 : Hid (∀ fd' : Bool, (fd = true → fd' = true) → (fit (bs (rat L i).1) (bs key) = true → rat L i = (r0, r1, r2) → fd' = true) → ∀ j, j < i + 1 → fit (bs (rat L j).1) (bs key) = true → rat L j = (r0, r1, r2) → fd' = true) := hidIt (fun fd' h0 h1 j hj hf he => by
            rcases Nat.lt_succ_iff_lt_or_eq.1 hj with h | h
            · exact h0 (HF2.out j h hf he)
            · subst h; exact h1 hf he)
          generalize rat L i = y at c0 c1 c2 hys HP2 HF3
          obtain ⟨y0, y1, y2⟩ := y
          simp only at c0 c1 c2 hys HP2 HF3
          have f0 := BX.out.c 0 rfl
          have f1 := BX.out.c 1 rfl
          have f2 := BX.out.c 2 rfl
          by_cases hlen : y0.size ≤ key.size
          · have hlen' : (y0.size : Int) ≤ (key.size : Int) := by omega
            have hft := fit_text y0 key
            cases hb : ((key.extract 0 y0.size).toList == y0.toList) with
            | false =>
              rw [hb] at hft
              have HF4 := hidIt (HF3.out fd id (fun h => by rw [hft] at h; cases h))
              clear hft
              go_wp2_with (fail)
              exact ⟨⟨i + 1, fd, rfl, by simp, by omega, HF1, HF4, ST, BX⟩, by simp [intOf]; omega⟩
            | true =>
              rw [hb] at hft
              obtain ⟨ei, hsz⟩ := HP2.out hft
              subst ei
              clear hft
              have hp5 := P5.out
              have hsz' : ¬ (r0.size : Int) < (y0.size : Int) := by omega
              have STn := hidIt (fun x => ST.out.kept (Go.Proofs.Ytdgnjhppggemhaa.Below.drewN (Below.refl wr.heap.size wr) x))
              have BXn := hidIt (fun x => BX.out.kept (Go.Proofs.Ytdgnjhppggemhaa.Below.drewN (Below.refl wr.heap.size wr) x))
              cases fd with
              | true =>
                have HF4 := hidIt (HF3.out true id (fun _ _ => rfl))
                go_wp2_with (fail)
                go_quiet (fail)
                go_wp2_with (fail)
                exact ⟨⟨i + 1, true, rfl, by simp, by omega, hidIt (fun _ => by first | exact rfl | exact trivial), hidIt (fun _ _ _ _ => by first | exact rfl | exact trivial), hidIt (STn.out _), hidIt (BXn.out _)⟩, by simp [intOf]; omega⟩
              | false =>
                rcases rw_cases (y0, y1, y2) (r0, r1, r2) with e | e | ⟨e, e'⟩ | ⟨e, e', e''⟩
                · simp only [Prod.mk.injEq] at e
                  obtain ⟨rfl, rfl, rfl⟩ := e
                  have HF4 := hidIt (HF3.out true (fun h => by cases h) (fun _ _ => rfl))
                  have HF5 : Hid (true = true → true = true) := hidIt (fun _ => rfl)
                  have z0 : (y0.toList == y0.toList) = true := by simp
                  have z1 : (y1 == y1) = true := by simp
                  have z2 : (y2 == y2) = true := by simp
                  go_wp2_with (fail)
                  go_quiet (fail)
                  go_wp2_with (fail)
                  exact ⟨⟨i + 1, true, rfl, by simp, by omega, hidIt (fun _ => by first | exact rfl | exact trivial), hidIt (fun _ _ _ _ => by first | exact rfl | exact trivial), hidIt (STn.out _), hidIt (BXn.out _)⟩, by simp [intOf]; omega⟩
                · have HF4 := hidIt (HF3.out false id (fun _ h => by simp only [Prod.mk.injEq] at h; rw [h.1] at e; simp at e))
                  simp only at e
                  go_wp2_with (fail)
                  go_quiet (fail)
                  go_wp2_with (fail)
                  exact ⟨⟨i + 1, false, rfl, by simp, by omega, HF1, HF4, hidIt (STn.out _), hidIt (BXn.out _)⟩, by simp [intOf]; omega⟩
                · have HF4 := hidIt (HF3.out false id (fun _ h => by simp only [Prod.mk.injEq] at h; simp only at e'; rw [h.2.1] at e'; simp at e'))
                  simp only at e e'
                  subst e
                  have z0 : (y0.toList == y0.toList) = true := by simp
                  go_wp2_with (fail)
                  go_quiet (fail)
                  go_wp2_with (fail)
                  exact ⟨⟨i + 1, false, rfl, by simp, by omega, HF1, HF4, hidIt (STn.out _), hidIt (BXn.out _)⟩, by simp [intOf]; omega⟩
                · have HF4 := hidIt (HF3.out false id (fun _ h => by simp only [Prod.mk.injEq] at h; simp only at e''; rw [h.2.2] at e''; simp at e''))
                  simp only at e e' e''
                  subst e e'
                  have z0 : (y0.toList == y0.toList) = true := by simp
                  have z1 : (y1 == y1) = true := by simp
                  go_wp2_with (fail)
                  go_quiet (fail)
                  go_wp2_with (fail)
                  exact ⟨⟨i + 1, false, rfl, by simp, by omega, HF1, HF4, hidIt (STn.out _), hidIt (BXn.out _)⟩, by simp [intOf]; omega⟩
          · have hlen' : ¬ (y0.size : Int) ≤ (key.size : Int) := by omega
            have hft := fit_long hlen
            have HF4 := hidIt (HF3.out fd id (fun h => by rw [hft] at h; cases h))
            clear hft
            go_wp2_with (fail)
            exact ⟨⟨i + 1, fd, rfl, by simp, by omega, HF1, HF4, ST, BX⟩, by simp [intOf]; omega⟩
        · have hin' : ¬ (i : Int) < (n : Int) := by omega
          have HI : Hid (i = n) := hidIt (by omega)
          cases is with
          | true =>
            have ef : fd = true := by
              obtain ⟨j, hj, hf, he⟩ := P3.out rfl
              exact HF2.out j (by rw [HI.out]; exact hj) hf he
            subst ef
            go_wp2_with (fail)
            go_ret
            exact ⟨rfl, ST.out.k⟩
          | false =>
            have ef : fd = false := by
              cases fd with
              | false => rfl
              | true => have := HF1.out rfl; cases this
            obtain ⟨em1, em2⟩ := P4.out rfl
            subst ef em1 em2
            go_wp2_with (fail)
            refine (C4.out _ ST.out.l).mono ?_
            rintro e wx2 ⟨rfl, kk⟩
            replace ST := hidIt (ST.out.kept kk)
            clear kk
            go_wp2_with (fail)
            refine (C5.out _ ST.out.l).mono ?_
            rintro e wx3 ⟨rfl, kk⟩
            replace ST := hidIt (ST.out.kept kk)
            clear kk
            go_wp2_with (fail)
            go_ret
            exact ⟨rfl, ST.out.k⟩

set_option maxRecDepth 100000 in
theorem lifted (os : Os) (started : os.Started) (H : Type) (enc : TypeId × Value → H) :
    ReturnsInHanded {} Try.checked os 3 .any (Rows.fnLongestSpec.pre6 enc Try.prog Try.f3 Rows.fnLongestRow.domain false) (Rows.fnLongestSpec.post enc Try.prog Try.f3 false true false false) := by
  refine returnsInHanded_of_change (C := Try.checked) own started (by kernel_rfl) Try.func3
    (ChangeSpec.witness6 (enc := enc) (C := Try.checked) false ⟨#[], #[.slice none 0 0], []⟩ 8 (by kernel_rfl) (by kernel_rfl) (by kernel_rfl) (by kernel_rfl)) ?_
  intro W base args ds gs before hval0 hW hcnd _
  have hval : ∀ (j : Nat) t v, Try.f3.params[j]? = some t → args[j]? = some v → Value.okWide Try.prog W .any base t v := hval0
  have hW' := hW
  obtain ⟨p, q, hA0, hV, rfl, hfz, hnd⟩ := hW
  have hA : DataW.TrodAll enc Try.prog W 0 (fun _ => true) true Try.f3.params.toList args.toList ds p := hA0
  rw [Try.params3] at hA hval
  obtain ⟨v0, vs0, d0, ds0, p0, q0, hargs, rfl, rfl, h0, r0⟩ := trodAll_cons hA
  obtain ⟨rfl, rfl, rfl⟩ := trodAll_nil r0
  obtain rfl : args = #[v0] := by cases args; simp_all
  obtain ⟨rfl, rfl⟩ := trodVars_none hV
  have k0 := h0
  have lt0 : ∀ x ∈ p0, x.block < W.heap.size := by obtain ⟨m, hm⟩ := k0; exact DataW.trod_lt m _ _ _ hm
  obtain ⟨a0, len0, cap0, rfl⟩ := okWide_slice Try.underlying22 (hval 0 22 v0 rfl rfl)
  obtain ⟨z0, w0⟩ : ∃ zs, IsRow .u8 W a0 len0 cap0 zs := by
    obtain ⟨fuel, hf⟩ := h0
    rcases open_ints Try.underlying22 Try.underlying5 (by kernel_rfl) hf with ⟨hcs, _⟩ | ⟨x, l, c, zs, hcs, _, hl, hm, hz, _, hcell, hwz⟩
    · simp [Value.cells] at hcs
      obtain ⟨rfl, rfl, rfl⟩ := hcs
      exact ⟨[], .inl ⟨rfl, rfl, rfl, rfl⟩⟩
    · simp [Value.cells] at hcs
      obtain ⟨rfl, rfl, rfl⟩ := hcs
      exact ⟨zs, .inr ⟨_, rfl, hl, hm, by simpa using hz, hcell, hwz⟩⟩
  clear hA0 hval0
  refine (walk a0 len0 cap0 z0 W w0).mono fun e W' ⟨he, bel⟩ => ?_
  subst he
  exact ⟨_, rfl, _, _, _, [], _, [], hW', trodAll_mk1 (shut_bool Try.underlying4 _), (trodAll_cons_mk (Below.trod laidOut (by kernel_rfl) (of_decide_eq_true (by kernel_rfl)) k0 bel lt0) trodAll_mk0), rfl, bel.frame _, fun h => by cases h⟩

theorem over : Rows.fnLongestRow.holds Try.pinned (OpenSpec.ofChange Rows.fnLongestSpec) :=
  OpenClaim.holds_of_wide 3 Try.f3 rfl rfl rfl rfl rfl rfl rfl ⟨rfl, rfl, rfl, rfl, rfl⟩ rfl rfl rfl rfl rfl (by kernel_rfl) Try.func3 (by kernel_rfl)
    (of_decide_eq_true (by kernel_rfl)) (by unfold Func.isWrapper; first | (rw [if_pos (by decide +kernel)]; kernel_rfl) | (rw [if_neg (by decide +kernel)]; exact ⟨rfl, rfl⟩))
    (fun os started H enc _ => lifted os started H enc)
end Go.Proofs.Ytdgnjhppggemhaa.fnLongest
namespace Go.Proofs.Ytdgnjhppggemhaa
theorem fnLongest_holds : Rows.FnLongestSaid := fnLongest.over
#print axioms fnLongest_holds
end Go.Proofs.Ytdgnjhppggemhaa
