/-
  Noted of the program and of the specification: what is noted on a log.
  Noted of the program and of the specification, whatever the list and the text.
  The laws' marks of chapter 4: markText, markLineS, heldLineS.
  Challenge of the program and of the specification: the challenge of two Points and a text; -1 when one is none.
  Signed of the program and of the specification: R and T of a secret and a text; the zero Sig and false when it is no secret.
-/
import Derived.Test.YtllajhieocploaaGreatDoorBun4
import Derived.Deep.RegionLawGrows
import Derived.ArgAppend
import Derived.Laws.CopyOwn
import Derived.Laws.AppendOwnNone
import Derived.Test.YtllajhieocploaaGreatDoorBun3
import Derived.Test.YtllajhieocploaaGreatDoorCurveS
import Derived.Test.YtllajhieocploaaGreatDoorBun2
import Derived.Test.YtllajhieocploaaGreatDoorBun1
namespace Go.Proofs.YtllajhieocploaaGreatDoor.Lg
open Go.ChangeShapes Go.WideShapes Go.ChangeAt Go.RowKit
open Sg
set_option linter.unusedVariables false
/-- The cells of a list that is read, one by one. -/
theorem Rd.cells {w : World} {x : Addr} {L : List Ln} (h : Rd w (some x) L) : ∀ j u, (lcells L)[j]? = some u → w.cell? (x.add j) = some u := by
  intro j u hj
  have hlt : j < L.length * 2 := by
    rcases Nat.lt_or_ge j (L.length * 2) with h | h
    · exact h
    · rw [List.getElem?_eq_none (by rw [lcells_length]; exact h)] at hj; cases hj
  obtain ⟨b, off, e, c0, c1⟩ := h.cell (j / 2) (by omega)
  cases e
  rw [Go.WideShapes.add_plain]
  rcases Nat.mod_two_eq_zero_or_one j with e | e
  · have := lcells_text L (j / 2) (by omega)
    rw [show j / 2 * 2 = j from by omega] at this c0
    rw [this] at hj
    cases hj
    exact c0
  · have := lcells_sum L (j / 2) (by omega)
    rw [show j / 2 * 2 + 1 = j from by omega] at this
    rw [show off + j / 2 * 2 + 1 = off + j from by omega] at c1
    rw [this] at hj
    cases hj
    exact c1
theorem Rd.holds {w : World} {a : Option Addr} {L : List Ln} (h : Rd w a L) : ∀ b, a = some b → ∀ j u, (lcells L)[j]? = some u → w.cell? (b.add j) = some u := by
  intro b e
  subst e
  exact h.cells
theorem Rd.one {w : World} {b : Nat} {s : ByteArray} {q : Int} (h0 : w.cell? ⟨b, 0, none⟩ = some (.string s)) (h1 : w.cell? ⟨b, 1, none⟩ = some (.int .i64 q)) : Rd w (some ⟨b, 0, none⟩) [(s, q)] :=
  ⟨fun i hi => by
    have e : i = 0 := by simp at hi; exact hi
    subst e
    exact ⟨b, 0, rfl, h0, h1⟩⟩
theorem Rd.fresh (w : World) (s : ByteArray) (q : Int) (T : TypeId) : Rd (w.alloc (.cells #[.string s, .int .i64 q] T)) (some ⟨w.heap.size, 0, none⟩) [(s, q)] := Rd.one (by simp) (by simp)
theorem Own.of_append {w : World} {base : Nat} {v : Value} {L : List Ln} {s : ByteArray} {q : Int} {n : Nat} (hn : L.length = n) (h : w.ownsRow base 104 2 v (n + 1) (lcells L ++ [.string s, .int .i64 q])) : Own w base v (L ++ [(s, q)]) := by
  unfold Own
  rw [List.length_append, lcells_append, hn]
  exact h
theorem Rd.none_nil {w : World} {L : List Ln} (h : Rd w none L) : L = [] := by
  cases L with
  | nil => rfl
  | cons x r => obtain ⟨b, off, e, _⟩ := h.cell 0 (by simp); cases e
theorem setRow_only {w : World} {g : Nat} (cs : Array Value) : Only g w (w.setRow g cs) :=
  ⟨rfl, rfl, rfl, by simp [World.setRow], fun k _ hk => setRow_other w g k cs hk⟩
/-- copy of a list onto a row of the call's own that is as long. -/
theorem run_copy_lines {w : World} {base g dcap cap n : Nat} {a : Option Addr} {L M : List Ln} (ty : TypeId) (hn : L.length = n) (hm : M.length = n) (hO : Own w base (.slice (some ⟨g, 0, none⟩) n dcap) M) (h : Rd w a L) :
    ∃ w', (Builtin.copy_ #[40, 40] ty #[.slice (some ⟨g, 0, none⟩) n dcap, .slice a n cap]).run Tryz.prog w = .ok (goInt n) w' ∧ Own w' base (.slice (some ⟨g, 0, none⟩) n dcap) L ∧ Only g w w' := by
  obtain ⟨i0, hi, hz0, hz1, hz2⟩ := info_parts infoLn
  subst hn
  cases a with
  | none =>
    have e := h.none_nil
    subst e
    have e := List.eq_nil_of_length_eq_zero hm
    subst e
    exact ⟨w, by simp [Builtin.copy_, run_underlying Tryz.underlying40, Builtin.lenOf, Builtin.firstCells, sizeOf, typeInfo, hi, storeCells], hO, Only.refl _ _⟩
  | some x =>
    rcases hO.2 with ⟨e, _⟩ | ⟨g', cap', cur, e, hb, hg, hnc, hcm, hsz, htk⟩
    · cases e
    · simp only [Value.slice.injEq, Option.some.injEq, Addr.mk.injEq, and_true] at e
      obtain ⟨rfl, hML, rfl⟩ := e
      have hl := run_firstCells_some (P := Tryz.prog) w 2 L.length x L.length cap (lcells L) (lcells_length L) h.cells
      have hst := run_storeCells_at Tryz.prog g 0 104 (lcells L) 0 cur w hg (by rw [lcells_length, hsz]; omega) (lcells_one L)
      simp only [Nat.add_zero, Nat.zero_add, List.take_zero, List.nil_append] at hst
      refine ⟨w.setRow g (lcells L ++ List.drop (lcells L).length cur.toList).toArray, ?_, ?_, setRow_only _⟩
      · simp [Builtin.copy_, run_underlying Tryz.underlying40, Builtin.lenOf, sizeOf, typeInfo, hi, hz1, hl, hst]
      · refine ⟨lcells_length L, .inr ⟨g, dcap, _, rfl, hb, setRow_heap w g _ _ _ _ hg, by omega, hcm, ?_, ?_⟩⟩
        · simp [lcells_length, hsz]; omega
        · simp [← lcells_length]
end Go.Proofs.YtllajhieocploaaGreatDoor.Lg
namespace Go.Proofs.YtllajhieocploaaGreatDoor.Lg
open Go.ChangeShapes Go.WideShapes Go.ChangeAt Go.RowKit
open Sg
set_option linter.unusedVariables false
/-- What is noted: the list with one Line more; as it is; nothing. -/
def ntL (L : List Ln) (t : ByteArray) : List Ln := if okL L = true then (if 100 < t.size ∨ L.length = 300 then L else L ++ [(t, (sumN (prev L L.length) t : Int))]) else []
def ntB (L : List Ln) (t : ByteArray) : Bool := okL L && !decide (100 < t.size ∨ L.length = 300)
theorem nt_no {L : List Ln} {t : ByteArray} (h : okL L = false) : ntL L t = [] ∧ ntB L t = false := by
  unfold ntL ntB
  rw [h]
  exact ⟨if_neg (by simp), rfl⟩
theorem nt_as {L : List Ln} {t : ByteArray} (h : okL L = true) (hb : 100 < t.size ∨ L.length = 300) : ntL L t = L ∧ ntB L t = false := by
  unfold ntL ntB
  rw [h, if_pos rfl, if_pos hb, decide_eq_true hb]
  exact ⟨rfl, rfl⟩
theorem nt_on {L : List Ln} {t : ByteArray} (h : okL L = true) (hb : ¬ (100 < t.size ∨ L.length = 300)) : ntL L t = L ++ [(t, (sumN (prev L L.length) t : Int))] ∧ ntB L t = true := by
  unfold ntL ntB
  rw [h, if_pos rfl, if_neg hb, decide_eq_false hb]
  exact ⟨rfl, rfl⟩
theorem Own.nil (w : World) (base : Nat) : Own w base (.slice none 0 0) [] := World.ownsRow_nil w base _ _
theorem ntL_len {L : List Ln} {t : ByteArray} : (ntL L t).length ≤ 300 := by
  cases h : okL L with
  | false => rw [(nt_no h).1]; simp
  | true =>
    have := (of_okL h).1
    by_cases hb : 100 < t.size ∨ L.length = 300
    · rw [(nt_as h hb).1]; exact this
    · rw [(nt_on h hb).1, List.length_append]; simp; omega
theorem held2_grown {W w' : World} {o : Obj} {b : Nat} {a0 a1 : Value} (g : ((W.alloc o).drew).grownBy w' none) (h : W.cell? ⟨b, 0, none⟩ = some a0 ∧ W.cell? ⟨b, 1, none⟩ = some a1) (l0 : b < W.heap.size) : w'.cell? ⟨b, 0, none⟩ = some a0 ∧ w'.cell? ⟨b, 1, none⟩ = some a1 := by
  have k : Below W.heap.size W (W.alloc o).drew := ((Below.refl _ W).alloc (Nat.le_refl _) o).drew
  exact held2 (k.grown g (by simp) (fun k hk => by cases hk)) h l0
/-- What is noted on a list whose last Sum is pv. -/
def noteL (L : List Ln) (pv : Nat) (t : ByteArray) : List Ln := if 100 < t.size ∨ L.length = 300 then L else L ++ [(t, (sumN pv t : Int))]
def noteB (L : List Ln) (t : ByteArray) : Bool := !decide (100 < t.size ∨ L.length = 300)
theorem note_as {L : List Ln} {pv : Nat} {t : ByteArray} (hb : 100 < t.size ∨ L.length = 300) : noteL L pv t = L ∧ noteB L t = false := by
  unfold noteL noteB
  rw [if_pos hb, decide_eq_true hb]
  exact ⟨rfl, rfl⟩
theorem note_on {L : List Ln} {pv : Nat} {t : ByteArray} (hb : ¬ (100 < t.size ∨ L.length = 300)) : noteL L pv t = L ++ [(t, (sumN pv t : Int))] ∧ noteB L t = true := by
  unfold noteL noteB
  rw [if_neg hb, decide_eq_false hb]
  exact ⟨rfl, rfl⟩
theorem note_nt {L : List Ln} {t : ByteArray} (h : okL L = true) : noteL L (prev L L.length) t = ntL L t ∧ noteB L t = ntB L t := by
  unfold noteL noteB ntL ntB
  rw [h, if_pos rfl]
  exact ⟨rfl, rfl⟩
end Go.Proofs.YtllajhieocploaaGreatDoor.Lg
namespace Go.Proofs.YtllajhieocploaaGreatDoor.Lg
open Go.ChangeShapes Go.WideShapes Go.ChangeAt Go.RowKit
open Sg
set_option linter.unusedVariables false
/-- The mark of a number: m and its digits. -/
def mt (k : Nat) : ByteArray := ⟨#[109]⟩ ++ ⟨(Lib.decDigits k).toArray⟩
set_option maxRecDepth 100000 in
set_option maxHeartbeats 4000000 in
theorem markText_any (n : Nat) (w : World) (h1 : 1 ≤ n) (hn : n ≤ 1099511627776) :
    Calls Tryz.prog 86 #[.int .i64 n] w fun e w' => e = .returned (.string (mt n)) ∧ Below w.heap.size w w' := by
  have h0 : ¬ (n : Int) ≤ 0 := by omega
  have em : mt n = ⟨#[109]⟩ ++ ⟨(Lib.decDigits n).toArray⟩ := rfl
  rw [em]
  clear em
  go_enter Tryz.func86, Tryz.ntmps86
  go_wp2_with (fail)
  go_loopw [0, 3] (fun y z wx => ∃ (m : Nat) (s : ByteArray), y = .int .i64 m ∧ z = .string s ∧ m ≤ 1099511627776 ∧ s.size + m ≤ n + 1 ∧ Lr n m s.data.toList ∧ Below w.heap.size w wx) (fun y _ _ => (intOf y).toNat)
  case atStart => exact ⟨n, _, rfl, rfl, hn, by simp [ByteArray.size], .inl ⟨rfl, rfl⟩, Below.refl _ _⟩
  case round =>
    obtain ⟨m, s, rfl, rfl, hm, hsm, hL, hB⟩ := hrel
    have HL := hidIt hL
    have HB := hidIt hB
    clear hL hB
    by_cases hg : 0 < m
    · have l0 : (0 : Int) < m := by omega
      have l2 : (m : Int) ≤ 1099511627776 := by omega
      have l3 : ¬ (m : Int) % 10 < 0 := by omega
      have hq1 : (⟨#[48 + UInt8.ofNat (m % 10)]⟩ : ByteArray).size = 1 := rfl
      have hq2 : ¬ 9223372036854775807 < 1 + s.size := by omega
      have hq3 : Hid (1 + s.size + m / 10 ≤ n + 1) := hidIt (by omega)
      have hcv := cv1 (48 + m % 10) (by omega) wr
      have ec : ((48 + m % 10 : Nat) : Int) = 48 + (m : Int) % 10 := by omega
      rw [ec] at hcv
      clear ec
      have hstep := hidIt (HL.out.step (.inr (by omega)))
      have hg' := hidIt hg
      clear hg
      go_wp2_with (fail)
      refine ⟨⟨m / 10, _, by simp, rfl, by omega, by rw [ByteArray.size_append, hq1]; exact hq3.out, ?_, HB.out.alloc (HB.out.size) _⟩, ?_⟩
      · have := hstep.out
        simpa using this
      · have := hg'.out
        simp [intOf]; omega
    · have l0 : ¬ (0 : Int) < m := by omega
      have hz : m = 0 := by omega
      subst hz
      have hd : Hid (s.data.toList = Lib.decDigits n) := hidIt (by
        rcases HL.out with ⟨_, h⟩ | ⟨_, _, h⟩ | ⟨_, h, _⟩
        · omega
        · exact h
        · exact absurd rfl h)
      have hs1 : s = ⟨(Lib.decDigits n).toArray⟩ := by
        rw [← hd.out]
      have hq1 : (⟨#[109]⟩ : ByteArray).size = 1 := rfl
      have hq2 : ¬ 9223372036854775807 < 1 + s.size := by omega
      have HS := hidIt hs1
      clear hs1
      go_wp2_with (fail)
      go_ret
      exact ⟨by rw [HS.out]; rfl, HB.out⟩
/-- The marks of n Lines from number k on. -/
def markL (k n : Nat) : List Ln := (List.range n).map fun j => (mt (k + 2 * j), ((k + 2 * j + 1 : Nat) : Int))
theorem markL_length (k n : Nat) : (markL k n).length = n := by simp [markL]
theorem lat_markL (k n j : Nat) (h : j < n) : lat (markL k n) j = (mt (k + 2 * j), ((k + 2 * j + 1 : Nat) : Int)) := by
  unfold markL
  rw [lat_map _ _ _ h]
/-- The block that a slice owns; of none, one that is not there. -/
def ob (w : World) (v : Value) : Nat := v.ownBlock.getD w.heap.size
set_option maxRecDepth 100000 in
set_option maxHeartbeats 4000000 in
theorem markLineS_any (base : Nat) (v : Value) (L : List Ln) (k : Nat) (w : World) (h : Own w base v L) (h1 : 1 ≤ k) (h2 : k + 2 * L.length ≤ 1099511627776) :
    Calls Tryz.prog 48 #[v, .int .i64 k] w fun e w' => e = .returned (.int .i64 ((k + 2 * L.length : Nat) : Int)) ∧ Own w' base v (markL k L.length) ∧ Only (ob w v) w w' := by
  obtain ⟨a, cap, rfl, hcap, hcm, hR, hna, hsome⟩ := h.form
  cases a with
  | none =>
    have e := hR.none_nil
    subst e
    have e := hna rfl
    subst e
    clear hsome hna
    go_enter Tryz.func48, Tryz.ntmps48
    go_wp2_with (fail)
    refine wp_loop_rounds 1 ?_
    rw [rounds_succ]
    go_wp2_with (fail)
    go_ret
    exact ⟨by simp, h, Only.refl _ _⟩
  | some x =>
    obtain ⟨g, rfl, hbg, hgl⟩ := hsome x rfl
    have eo : ob w (.slice (some ⟨g, 0, none⟩) L.length cap) = g := rfl
    rw [eo]
    have HO := hidIt h
    generalize hn : L.length = n at *
    have HN := hidIt hn
    clear h hR hna hsome hn eo hcm
    go_enter Tryz.func48, Tryz.ntmps48
    go_wp2_with (fail)
    go_loopw [1, 5] (fun z y wx => ∃ (i : Nat) (M : List Ln), y = .int .i64 i ∧ z = .int .i64 ((k + 2 * i : Nat) : Int) ∧ i ≤ n ∧ M.length = n ∧ Hid (∀ j, j < i → lat M j = (mt (k + 2 * j), ((k + 2 * j + 1 : Nat) : Int))) ∧ Own wx base (.slice (some ⟨g, 0, none⟩) n cap) M ∧ Only g w wx) (fun _ y _ => (n - intOf y).toNat)
    case atStart => exact ⟨0, L, rfl, rfl, by omega, HN.out, hidIt (fun j hj => by omega), HO.out, Only.refl _ _⟩
    case round =>
      obtain ⟨i, M, rfl, rfl, hi, hM, hE, hO, hY⟩ := hrel
      have HM := hidIt hM
      have HOx := hidIt hO
      have HY := hidIt hY
      clear hM hO hY
      by_cases hin : i < n
      · have hin' : (i : Int) < (n : Int) := by omega
        have hiM : i < M.length := by rw [HM.out]; exact hin
        generalize hk : k + 2 * i = q
        have HK := hidIt hk
        clear hk
        have q1 : q + 2 ≤ 1099511627776 := by have := HK.out; omega
        have CM := hidIt (fun w => markText_any q w (by have := HK.out; omega) (by omega))
        go_wp2_with (fail)
        refine (CM.out _).mono ?_
        rintro e w1 ⟨rfl, hb1⟩
        have HO1 := hidIt (HOx.out.kept hb1)
        obtain ⟨c0, c1, f0, f1⟩ := HO1.out.at hiM
        have HY1 := hidIt (HY.out.trans (Only.of_below hb1))
        have HL := hidIt (HO1.out.line hiM (mt q) ((q + 1 : Nat) : Int))
        have HMi := hidIt hiM
        clear hb1 HOx HY HO1 hiM
        generalize hmt : mt q = tx at HL
        have HTX := hidIt hmt
        clear hmt
        have q2 : ((q + 1 : Nat) : Int) = (q : Int) + 1 := by omega
        rw [q2] at HL
        clear q2
        go_wp2_with (fail)
        refine ⟨⟨i + 1, _, by simp, ?_, by omega, by rw [List.length_set]; exact HM.out, hidIt (fun j hj => ?_), HL.out, (HY1.out.setCell _ _).setCell _ _⟩, by simp [intOf]; omega⟩
        · have := HK.out
          congr 1
          omega
        · rw [lat_set HMi.out]
          split
          · next e =>
            subst e
            rw [HK.out, HTX.out]
            simp
          · exact hE.out j (by omega)
      · have hin' : ¬ (i : Int) < (n : Int) := by omega
        have ei : i = n := by omega
        subst ei
        have e : M = markL k i := ext_lat (by rw [HM.out, markL_length]) (fun j hj => by rw [HM.out] at hj; rw [hE.out j hj, lat_markL _ _ _ hj])
        subst e
        generalize hk : k + 2 * i = q
        go_wp2_with (fail)
        go_ret
        exact ⟨rfl, HOx.out, HY.out⟩
/-- What lies below a row that is written, or above it, stays. -/
theorem Own.lo {w w' : World} {b b' : Nat} {u v : Value} {M L : List Ln} (hu : Own w b u M) (hv : Own w b' v L) (Y : Only (ob w v) w w') (hlt : ∀ g, u.ownBlock = some g → g < b') : Own w' b u M := by
  refine hu.only Y (.inr fun g hg => ?_)
  have h1 := hlt g hg
  have h2 := (World.ownsRow.lt hu g hg).2
  unfold ob
  cases hvb : v.ownBlock with
  | none => simp; omega
  | some x => have := (World.ownsRow.lt hv x hvb).1; simp; omega
theorem Own.hi {w w' : World} {b b' : Nat} {u v : Value} {M L : List Ln} (hu : Own w b u M) (hv : Own w b' v L) (Y : Only (ob w v) w w') (hlt : ∀ g, v.ownBlock = some g → g < b) : Own w' b u M := by
  refine hu.only Y (.inr fun g hg => ?_)
  have h1 := World.ownsRow.lt hu g hg
  unfold ob
  cases hvb : v.ownBlock with
  | none => simp; omega
  | some x => have := hlt x hvb; simp; omega
theorem Own.blk {w : World} {b : Nat} {v : Value} {L : List Ln} (hv : Own w b v L) {X : Nat} (hX : w.heap.size ≤ X) : ∀ g, v.ownBlock = some g → g < X := fun g hg => by
  have := (World.ownsRow.lt hv g hg).2; omega
theorem ob_below {W w w' : World} {b B : Nat} {v : Value} {L : List Ln} (k : Below B W w) (hv : Own w b v L) (Y : Only (ob w v) w w') (hb : B ≤ b) (hs : B ≤ w.heap.size) : Below B W w' := by
  refine k.trans (Y.below ?_ hs)
  unfold ob
  cases hvb : v.ownBlock with
  | none => simpa using hs
  | some x => have := (World.ownsRow.lt hv x hvb).1; simp; omega
end Go.Proofs.YtllajhieocploaaGreatDoor.Lg
namespace Go.Proofs.YtllajhieocploaaGreatDoor.Sg
open Go.ChangeShapes Go.WideShapes Go.ChangeAt Go.RowKit
open Cv Cu
theorem ok_le {a b : Nat} (h : okN (a, b) = true) : a ≤ 1099511627776 ∧ b ≤ 1099511627776 := by
  have := ok_el h
  unfold El at this
  simp only at this
  omega
theorem hrun_all (a b s : ByteArray) : hrun (hrun (hrun 17 (nums a)) (nums b)) (nums s) = hrun 17 (nums (a ++ b ++ s)) := by
  rw [hrun_two, hrun_two, ByteArray.append_assoc]
set_option maxRecDepth 100000 in
set_option maxHeartbeats 4000000 in
theorem impl_Challenge_yes (r1 r2 k1 k2 : Nat) (s : ByteArray) (w : World) (hr : okN (r1, r2) = true) (hk : okN (k1, k2) = true) (hs : s.size ≤ 9223372036854775807) (ht : Tab w) :
    Calls Tryz.prog 112 #[.agg #[.int .i64 r1, .int .i64 r2], .agg #[.int .i64 k1, .int .i64 k2], .string s] w fun e w' => e = .returned (.int .i64 (chN r1 r2 k1 k2 s)) ∧ Below w.heap.size w w' := by
  have cr := impl_PointOk r1 r2
  rw [okI_cast, hr] at cr
  have ck := impl_PointOk k1 k2
  rw [okI_cast, hk] at ck
  have CR := hidIt cr
  have CK := hidIt ck
  have HT := hidIt ht
  have htl := ht.lt
  have br := ok_le hr
  have bk := ok_le hk
  have ec : ((chN r1 r2 k1 k2 s : Nat) : Int) = (hend (hrun (hrun (hrun 17 (nums (ptS r1 r2))) (nums (ptS k1 k2))) (nums s)) : Int) % 2549 := by
    rw [hrun_all]; unfold chN hashN; omega
  rw [ec]
  clear ec cr ck hr hk ht
  go_enter Tryz.func112, Tryz.ntmps112
  go_wp2_with (fail)
  refine (CR.out _).mono ?_
  rintro e w1 ⟨rfl, hb1⟩
  obtain ⟨hc1, hf1⟩ := bcell hb1
  have z1 : w.heap.size + 1 < w1.heap.size := by have := hb1.size; simp at this; omega
  have z0 : w.heap.size < w.heap.size + 1 + 1 := by omega
  go_wp2_with (fail)
  refine (CK.out _).mono ?_
  rintro e w2 ⟨rfl, hb2⟩
  obtain ⟨hc2, hf2⟩ := bcell hb2
  have z2 : w.heap.size + 1 < w2.heap.size := by have := hb2.size; omega
  go_wp2_with (fail)
  refine (newHasher_any _).mono ?_
  rintro e w3 ⟨rfl, hb3⟩
  have z3 : w.heap.size + 1 < w3.heap.size := by have := hb3.size; omega
  have B3 : Below w.heap.size w w3 := (((((Below.refl w.heap.size w).alloc (Nat.le_refl _) _).alloc (by simp) _).trans (hb1.mono (B' := w.heap.size) (by simp; omega))).trans (hb2.mono (B' := w.heap.size) (by omega))).trans (hb3.mono (B' := w.heap.size) (by omega))
  have R3 : w3.cell? ⟨w.heap.size, 0, none⟩ = some (.int .i64 r1) := by rw [hb3.cell (by simp; omega), hc2 _ _ (by omega), hc1 _ _ (by simp; omega)]; simp
  have R4 : w3.cell? ⟨w.heap.size, 1, none⟩ = some (.int .i64 r2) := by rw [hb3.cell (by simp; omega), hc2 _ _ (by omega), hc1 _ _ (by simp; omega)]; simp
  have K3 : w3.cell? ⟨w.heap.size + 1, 0, none⟩ = some (.int .i64 k1) := by rw [hb3.cell (by simp; omega), hc2 _ _ (by omega), hc1 _ _ (by simp)]; simp
  have K4 : w3.cell? ⟨w.heap.size + 1, 1, none⟩ = some (.int .i64 k2) := by rw [hb3.cell (by simp; omega), hc2 _ _ (by omega), hc1 _ _ (by simp)]; simp
  have HB3 := hidIt B3
  have HT3 := hidIt (HT.out.kept B3)
  clear hb1 hb2 hb3 hc1 hf1 hc2 hf2 B3
  have z4 : w.heap.size < w3.heap.size := by omega
  have z5 : ¬ w.heap.size = w3.heap.size := by omega
  have z6 : ¬ w.heap.size + 1 = w3.heap.size := by omega
  have z7 : w.heap.size < w3.heap.size + 1 := by omega
  have z8 : w.heap.size + 1 < w3.heap.size + 1 := by omega
  have HK3 := hidIt (And.intro K3 K4)
  go_wp2_with (fail)
  refine (point_hash w3.heap.size 17 r1 r2 _ (One.newAt rfl) (by omega) br.1 br.2 HT3.out.old (by omega)).mono ?_
  rintro e w4 ⟨rfl, hO4, hB4⟩
  have HO4 := hidIt hO4
  have HB4 := hidIt hB4
  have K5 := hB4.cell (p := ⟨w.heap.size + 1, 0, none⟩) (by simp; omega) (by simp; omega)
  have K6 := hB4.cell (p := ⟨w.heap.size + 1, 1, none⟩) (by simp; omega) (by simp; omega)
  rw [World.cell?_alloc_old _ _ _ (by simp; omega)] at K5 K6
  rw [K3] at K5
  rw [K4] at K6
  have y4 : w3.heap.size < w4.heap.size := hO4.lt
  have HT4 := hidIt (HT3.out.old.only hB4 (by omega))
  clear hO4 hB4 K3 K4 R3 R4
  go_wp2_with (fail)
  refine (point_hash w3.heap.size _ k1 k2 _ HO4.out (hrun_lt _ _ (by omega)) bk.1 bk.2 HT4.out (by omega)).mono ?_
  rintro e w5 ⟨rfl, hO5, hB5⟩
  have HO5 := hidIt hO5
  have HB5 := hidIt hB5
  clear hO5 hB5 K5 K6
  go_wp2_with (fail)
  refine (text_any w3.heap.size _ s _ HO5.out (hrun_lt _ _ (hrun_lt _ _ (by omega))) hs).mono ?_
  rintro e w6 ⟨rfl, hO6, hB6⟩
  have hl := hrun_lt (nums s) _ (hrun_lt (nums (ptS k1 k2)) _ (hrun_lt (nums (ptS r1 r2)) 17 (by omega)))
  have hl2 := hend_lt _ hl
  have CE := hidIt (fun w => ended_any _ w hl)
  have HB6 := hidIt hB6
  generalize hg : hrun (hrun (hrun 17 (nums (ptS r1 r2))) (nums (ptS k1 k2))) (nums s) = g at hO6 CE hl2
  have HG := hidIt hg
  have c0 := hO6.c0
  have y6 := hO6.lt
  clear hg hl hO6 hB6
  have q0 : (0 : Int) ≤ (hend g : Int) := by omega
  have q1 : (hend g : Int) < 2147483647 := by omega
  go_wp2_with (fail)
  refine (CE.out _).mono ?_
  rintro e w7 ⟨rfl, hb7⟩
  go_wp2_with (fail)
  go_ret
  have y5 := HB5.out.size
  have b4 := (HB3.out.alloc (by omega) _).trans (HB4.out.below (B := w.heap.size) (by omega) (by simp; omega))
  have b6 := (b4.trans (HB5.out.below (B := w.heap.size) (by omega) (by omega))).trans (HB6.out.below (B := w.heap.size) (by omega) (by omega))
  refine ⟨?_, b6.trans (hb7.mono (by omega))⟩
  rw [HG.out]
  rfl
set_option maxRecDepth 100000 in
set_option maxHeartbeats 4000000 in
theorem impl_Challenge_no (r1 r2 k1 k2 : Int) (s : ByteArray) (w : World) (h : okI r1 r2 = false ∨ okI r1 r2 = true ∧ okI k1 k2 = false) :
    Calls Tryz.prog 112 #[.agg #[.int .i64 r1, .int .i64 r2], .agg #[.int .i64 k1, .int .i64 k2], .string s] w fun e w' => e = .returned (.int .i64 (-1)) ∧ Below w.heap.size w w' := by
  have cr := impl_PointOk r1 r2
  have ck := impl_PointOk k1 k2
  rcases h with h | ⟨h, h2⟩
  · rw [h] at cr
    have CR := hidIt cr
    clear cr ck h
    go_enter Tryz.func112, Tryz.ntmps112
    go_wp2_with (fail)
    refine (CR.out _).mono ?_
    rintro e w1 ⟨rfl, hb1⟩
    go_wp2_with (fail)
    go_ret
    exact ⟨rfl, (((Below.refl w.heap.size w).alloc (Nat.le_refl _) _).alloc (by simp) _).trans (hb1.mono (B' := w.heap.size) (by simp; omega))⟩
  · rw [h] at cr
    rw [h2] at ck
    have CR := hidIt cr
    have CK := hidIt ck
    clear cr ck h h2
    go_enter Tryz.func112, Tryz.ntmps112
    go_wp2_with (fail)
    refine (CR.out _).mono ?_
    rintro e w1 ⟨rfl, hb1⟩
    obtain ⟨hc1, hf1⟩ := bcell hb1
    have z1 : w.heap.size + 1 < w1.heap.size := by have := hb1.size; simp at this; omega
    go_wp2_with (fail)
    refine (CK.out _).mono ?_
    rintro e w2 ⟨rfl, hb2⟩
    go_wp2_with (fail)
    go_ret
    exact ⟨rfl, ((((Below.refl w.heap.size w).alloc (Nat.le_refl _) _).alloc (by simp) _).trans (hb1.mono (B' := w.heap.size) (by simp; omega))).trans (hb2.mono (by omega))⟩
end Go.Proofs.YtllajhieocploaaGreatDoor.Sg
namespace Go.Proofs.YtllajhieocploaaGreatDoor.Sg
open Go.ChangeShapes Go.WideShapes Go.ChangeAt Go.RowKit
open Cv Cu
/-- R of a secret and a text. -/
def sgR (n : Nat) (s : ByteArray) : Nat × Nat := ns (2791, 6375) (noN n s)
/-- T of a secret and a text. -/
def sgT (n : Nat) (s : ByteArray) : Nat := (noN n s + chN (sgR n s).1 (sgR n s).2 (ns (2791, 6375) n).1 (ns (2791, 6375) n).2 s * n) % 2549
theorem sgT_lt (n : Nat) (s : ByteArray) : sgT n s < 2549 := Nat.mod_lt _ (by omega)
theorem wrap_small (m : Int) (h1 : 0 ≤ m) (h2 : m ≤ 9000000000) : IntKind.i64.wrap m = m := by rw [IntKind.wrap_i64]; omega
theorem prod_le {c n : Nat} (hc : c < 2549) (hn : n < 2549) : c * n ≤ 6492304 := Nat.mul_le_mul (show c ≤ 2548 by omega) (show n ≤ 2548 by omega)
/-- Block b holds the three numbers x, y, z, and may be written. -/
structure Tri (w : World) (b : Nat) (x y z : Int) : Prop where
  lt : b < w.heap.size
  c0 : w.cell? ⟨b, 0, none⟩ = some (.int .i64 x)
  c1 : w.cell? ⟨b, 1, none⟩ = some (.int .i64 y)
  c2 : w.cell? ⟨b, 2, none⟩ = some (.int .i64 z)
  f0 : w.frozen? ⟨b, 0, none⟩ = false
  f1 : w.frozen? ⟨b, 1, none⟩ = false
  f2 : w.frozen? ⟨b, 2, none⟩ = false
theorem Tri.next {w w' : World} {b : Nat} {x y z : Int} (h : Tri w b x y z) (k : Below w.heap.size w w') : Tri w' b x y z :=
  ⟨Nat.lt_of_lt_of_le h.lt k.size, by rw [k.cell (by simpa using h.lt)]; exact h.c0, by rw [k.cell (by simpa using h.lt)]; exact h.c1, by rw [k.cell (by simpa using h.lt)]; exact h.c2, by rw [k.frozen (by simpa using h.lt)]; exact h.f0, by rw [k.frozen (by simpa using h.lt)]; exact h.f1, by rw [k.frozen (by simpa using h.lt)]; exact h.f2⟩
theorem Tri.old {w : World} {o : Obj} {b : Nat} {x y z : Int} (h : Tri w b x y z) : Tri (w.alloc o) b x y z := h.next ((Below.refl w.heap.size w).alloc (Nat.le_refl _) o)
theorem Tri.newAt {w : World} {x y z : Int} {T : TypeId} {k : Nat} (h : w.heap.size = k) : Tri (w.alloc (.cells #[.int .i64 x, .int .i64 y, .int .i64 z] T)) k x y z := by
  subst h; exact ⟨by simp, by simp, by simp, by simp, by simp, by simp, by simp⟩
theorem Tri.put {w : World} {b : Nat} {x y z x' y' z' : Int} (h : Tri w b x y z) : Tri (((w.setCell ⟨b, 0, none⟩ (.int .i64 x')).setCell ⟨b, 1, none⟩ (.int .i64 y')).setCell ⟨b, 2, none⟩ (.int .i64 z')) b x' y' z' := by
  refine ⟨by simpa [World.setCell] using h.lt, ?_, ?_, ?_, ?_, ?_, ?_⟩
  · rw [cell_set_other (by decide), cell_set_other (by decide)]; exact World.cell?_setCell_same' _ _ _ (by rw [h.c0]; rfl)
  · rw [cell_set_other (by decide)]; exact World.cell?_setCell_same' _ _ _ (by rw [cell_set_other (by decide), h.c1]; rfl)
  · exact World.cell?_setCell_same' _ _ _ (by rw [cell_set_other (by decide), cell_set_other (by decide), h.c2]; rfl)
  · simpa using h.f0
  · simpa using h.f1
  · simpa using h.f2
theorem Tri.drew {w : World} {b : Nat} {x y z : Int} (h : Tri w b x y z) : Tri w.drew b x y z := ⟨h.lt, h.c0, h.c1, h.c2, h.f0, h.f1, h.f2⟩
theorem Tw.drew {w : World} {b : Nat} {x y : Int} (h : Tw w b x y) : Tw w.drew b x y := ⟨h.lt, h.c0, h.c1⟩
theorem ret_via3 {fn : Func} {tm : Array Value} {wf : World} {b : Nat} {x y z : Int} {v : Value} (t : Tri wf b x y z) (h : ∀ w2, Tri w2 b x y z → (results fn tm).run Tryz.prog w2 = .ok v w2) : (results fn tm).run Tryz.prog wf = .ok v wf := h wf t
set_option maxRecDepth 100000 in
set_option maxHeartbeats 4000000 in
theorem impl_Signed_aux (n k c R1 R2 K1 K2 T : Nat) (s : ByteArray) (w : World) (ht : Tab w) (h2 : n < 2549) (hk : k < 2549) (hc : c < 2549) (hT : (k + c * n) % 2549 = T)
    (ck : ∀ w, Calls Tryz.prog 78 #[.int .i64 n] w fun e w' => e = .returned (.tuple #[.agg #[.int .i64 K1, .int .i64 K2], .bool true]) ∧ Below w.heap.size w w')
    (cn : ∀ w, Tab w → Calls Tryz.prog 111 #[.int .i64 n, .string s] w fun e w' => e = .returned (.int .i64 k) ∧ Below w.heap.size w w')
    (cb : ∀ w, Calls Tryz.prog 110 #[.int .i64 k] w fun e w' => e = .returned (.agg #[.int .i64 R1, .int .i64 R2]) ∧ Below w.heap.size w w')
    (cc : ∀ w, Tab w → Calls Tryz.prog 112 #[.agg #[.int .i64 R1, .int .i64 R2], .agg #[.int .i64 K1, .int .i64 K2], .string s] w fun e w' => e = .returned (.int .i64 c) ∧ Below w.heap.size w w') :
    Calls Tryz.prog 79 #[.int .i64 n, .string s] w fun e w' => e = .returned (.tuple #[.agg #[.int .i64 R1, .int .i64 R2, .int .i64 T], .bool true]) ∧ Below w.heap.size w w' := by
  have CK := hidIt ck
  have CN := hidIt cn
  have CB := hidIt cb
  have CC := hidIt cc
  have HT := hidIt ht
  have hp := prod_le hc h2
  have q1 : (0 : Int) ≤ (c : Int) * (n : Int) := Int.mul_nonneg (by omega) (by omega)
  have q2 : (c : Int) * (n : Int) ≤ 6492304 := by rw [← Int.natCast_mul]; omega
  have q3 : ((k : Int) + (c : Int) * (n : Int)).tmod 2549 = (T : Int) := by rw [Int.tmod_eq_emod_of_nonneg (by omega), ← Int.natCast_mul, ← hT]; omega
  have q4 : ((k : Int) + (c : Int) * (n : Int)) % 2549 = (T : Int) := by rw [← Int.natCast_mul, ← hT]; omega
  have e1 : IntKind.i64.wrap ((c : Int) * (n : Int)) = (c : Int) * (n : Int) := wrap_small _ q1 (by omega)
  have e2 : IntKind.i64.wrap ((k : Int) + (c : Int) * (n : Int)) = (k : Int) + (c : Int) * (n : Int) := wrap_small _ (by omega) (by omega)
  clear ck cn cb cc ht hT hp
  go_enter Tryz.func79, Tryz.ntmps79
  go_wp2_with (fail)
  refine (CK.out _).mono ?_
  rintro e w1 ⟨rfl, hb1⟩
  have z1 : w.heap.size < w1.heap.size := by have := hb1.size; simp at this; omega
  have B1 := hidIt (((Below.refl w.heap.size w).alloc (Nat.le_refl _) (.cells #[.int .i64 0, .int .i64 0, .int .i64 0] 50)).trans (hb1.mono (B' := w.heap.size) (by simp)))
  have S1 := hidIt ((Tri.newAt (w := w) (x := 0) (y := 0) (z := 0) rfl).next hb1)
  clear hb1
  go_wp2_with (fail)
  refine (CN.out _ (HT.out.kept (B1.out.alloc (by omega) _))).mono ?_
  rintro e w2 ⟨rfl, hb2⟩
  have S2 := hidIt (S1.out.old.next hb2)
  have K2t := hidIt ((Tw.newAt (x := K1) (y := K2) rfl).next hb2)
  have B2 := hidIt (below_step B1.out hb2)
  clear hb2 S1 B1
  go_wp2_with (fail)
  refine (CB.out _).mono ?_
  rintro e w3 ⟨rfl, hb3⟩
  have S3 := hidIt (S2.out.next hb3)
  have K3t := hidIt (K2t.out.next hb3)
  have B3 := hidIt (below_next B2.out hb3)
  clear hb3 S2 K2t B2
  go_upto_region 6 with fail
  have SZ := S3.out.old (o := .cells #[.int .i64 R1, .int .i64 R2] 48)
  have KZ := K3t.out.old (o := .cells #[.int .i64 R1, .int .i64 R2] 48)
  have RZ := Tw.newAt (w := w3) (x := R1) (y := R2) (T := 48) rfl
  have BZ := below_old (o := .cells #[.int .i64 R1, .int .i64 R2] 48) B3.out
  clear S3 K3t B3
  generalize w3.alloc (.cells #[.int .i64 R1, .int .i64 R2] 48) = wz at SZ KZ RZ BZ ⊢
  generalize w3.heap.size = bR at RZ ⊢
  generalize w1.heap.size = bK at KZ z1 ⊢
  have TZ := hidIt (HT.out.kept BZ)
  have HS := hidIt SZ
  have HBZ := hidIt BZ
  have HR := hidIt RZ
  have HK := hidIt KZ
  have r0 := RZ.c0
  have r1 := RZ.c1
  have r2 := RZ.lt
  have k0 := KZ.c0
  have k1 := KZ.c1
  have k2 := KZ.lt
  have s0 := SZ.c0
  have s1 := SZ.c1
  have s2 := SZ.c2
  have s3 := SZ.f0
  have s4 := SZ.f1
  have s5 := SZ.f2
  have s6 := SZ.lt
  clear SZ BZ KZ RZ
  go_region_with (go_at_call 112; refine (CC.out _ (TZ.out.kept (Below.drew (Below.refl _ _)))).mono ?_; rintro e w4 ⟨rfl, hb4⟩; have z4 : wz.heap.size ≤ w4.heap.size := hb4.size; have H4 := hidIt (HS.out.drew.next hb4); have B4 := hidIt (below_next (Below.drew HBZ.out) hb4); have x0 := H4.out.c0; have x1 := H4.out.c1; have x2 := H4.out.c2; have x3 := H4.out.f0; have x4 := H4.out.f1; have x5 := H4.out.f2; have x6 := H4.out.lt; have y0 := ((Sg.Tw.drew HR.out).next hb4).c0; have y1 := ((Sg.Tw.drew HR.out).next hb4).c1; clear hb4)
  all_goals
    go_wp2_with (fail)
    refine bodyPost_ret (v := .tuple #[.agg #[.int .i64 R1, .int .i64 R2, .int .i64 T], .bool true]) ?_ rfl ⟨rfl, ((B4.out.setCell (by simp) _).setCell (by simp) _).setCell (by simp) _⟩
    refine ret_via3 (H4.out.put (x' := R1) (y' := R2) (z' := T)) (fun w9 j => ?_)
    have j0 := j.c0
    have j1 := j.c1
    have j2 := j.c2
    clear j x0 x1 x2 x3 x4 x5 x6 y0 y1 s0 s1 s2 s3 s4 s5 s6 r0 r1 r2 k0 k1 k2
    simp [results, Tryz.results79, go_sem, j0, j1, j2]
end Go.Proofs.YtllajhieocploaaGreatDoor.Sg
