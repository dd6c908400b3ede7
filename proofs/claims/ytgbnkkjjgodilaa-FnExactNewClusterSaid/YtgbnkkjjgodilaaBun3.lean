/-
  Marks written into a list of Entrys of the call's own, and looked for again. (Written by wip/mkrow.py.)
  A list of numbers (int64) as it lies in memory: one cell a number; a row of the call's own.
  Marks of rows of int64: markInt64S and heldInt64S of the laws.
  A list of numbers (int64) as it lies in memory: one cell a number; a row of the call's own; what the laws do with one; the specification's l1Has.
  Members in plain words, as books are: by Id, which is Stronger, what is found under an Id, what two lists come to. (Written out of BokP by wip/mkMem.py.) No program in sight.
-/
import Derived.Test.YtgbnkkjjgodilaaBun2
import Derived.Test.YtgbnkkjjgodilaaNameQ
import Derived.Test.YtgbnkkjjgodilaaMem
import Derived.Test.YtgbnkkjjgodilaaProg
import Derived.OpenShut
import Derived.Laws.OwnMore
import Derived.Deep.OwnRows
import Derived.OwnWalk
import Derived.Laws.AppendOwn
import Derived.Lib.SmallJoins
import Derived.WalkKit
namespace Go.Proofs.Ytgbnkkjjgodilaa.En
open Go.ChangeShapes Go.WideShapes Go.ChangeAt Go.RowKit
open Go.Proofs.Ytgbnkkjjgodilaa.Nm (mt)
open Go.Proofs.Ytgbnkkjjgodilaa.Rc (BelowBy BelowBy.one BelowBy.cell wp_region_below calls_below calls_same)
set_option linter.unusedVariables false
set_option linter.unusedSimpArgs false
/-- The marks of m Entrys from number k on. -/
def markX (k m : Nat) : List Rw := (List.range m).map fun j => (mt (k + 5 * j), mt (k + 5 * j + 1), ((k + 5 * j + 2 : Nat) : Int), ((k + 5 * j + 3 : Nat) : Int), decide ((k + 5 * j + 4) % 3 = 0))
theorem markX_length (k m : Nat) : (markX k m).length = m := by simp [markX]
theorem rat_markX (k m j : Nat) (h : j < m) : rat (markX k m) j = (mt (k + 5 * j), mt (k + 5 * j + 1), ((k + 5 * j + 2 : Nat) : Int), ((k + 5 * j + 3 : Nat) : Int), decide ((k + 5 * j + 4) % 3 = 0)) := by
  unfold markX
  rw [rat_map _ _ _ h]
theorem set_self {L : List Rw} {i : Nat} : L.set i (rat L i) = L := by
  by_cases h : i < L.length
  · apply ext_rat (by rw [List.length_set])
    intro t ht
    rw [rat_set h]
    split
    · next e => rw [e]
    · rfl
  · rw [List.set_eq_of_length_le (by omega)]
theorem Own.put0 {w : World} {base g m cap i : Nat} {L : List Rw} {y0 y1 y2 y3 y4} (h : Own w base (.slice (some ⟨g, 0, none⟩) m cap) (L.set i (y0, y1, y2, y3, y4))) (hi : i < L.length) (v : ByteArray) : Own (w.setCell ⟨g, i * 5, none⟩ (.string v)) base (.slice (some ⟨g, 0, none⟩) m cap) (L.set i (v, y1, y2, y3, y4)) := by
  have h1 := h.set (i := i) (j := 0) (v := .string v) (y := (v, y1, y2, y3, y4)) (by rw [List.length_set]; exact hi) (by omega) (fun k hk => by
    rw [rat_set hi, if_pos rfl]
    match k, hk with
    | 0, _ => rfl
    | 1, _ => rfl
    | 2, _ => rfl
    | 3, _ => rfl
    | 4, _ => rfl)
  rw [List.set_set] at h1
  exact h1
theorem Own.put1 {w : World} {base g m cap i : Nat} {L : List Rw} {y0 y1 y2 y3 y4} (h : Own w base (.slice (some ⟨g, 0, none⟩) m cap) (L.set i (y0, y1, y2, y3, y4))) (hi : i < L.length) (v : ByteArray) : Own (w.setCell ⟨g, i * 5 + 1, none⟩ (.string v)) base (.slice (some ⟨g, 0, none⟩) m cap) (L.set i (y0, v, y2, y3, y4)) := by
  have h1 := h.set (i := i) (j := 1) (v := .string v) (y := (y0, v, y2, y3, y4)) (by rw [List.length_set]; exact hi) (by omega) (fun k hk => by
    rw [rat_set hi, if_pos rfl]
    match k, hk with
    | 0, _ => rfl
    | 1, _ => rfl
    | 2, _ => rfl
    | 3, _ => rfl
    | 4, _ => rfl)
  rw [List.set_set] at h1
  exact h1
theorem Own.put2 {w : World} {base g m cap i : Nat} {L : List Rw} {y0 y1 y2 y3 y4} (h : Own w base (.slice (some ⟨g, 0, none⟩) m cap) (L.set i (y0, y1, y2, y3, y4))) (hi : i < L.length) (v : Int) : Own (w.setCell ⟨g, i * 5 + 2, none⟩ (.int .i64 v)) base (.slice (some ⟨g, 0, none⟩) m cap) (L.set i (y0, y1, v, y3, y4)) := by
  have h1 := h.set (i := i) (j := 2) (v := .int .i64 v) (y := (y0, y1, v, y3, y4)) (by rw [List.length_set]; exact hi) (by omega) (fun k hk => by
    rw [rat_set hi, if_pos rfl]
    match k, hk with
    | 0, _ => rfl
    | 1, _ => rfl
    | 2, _ => rfl
    | 3, _ => rfl
    | 4, _ => rfl)
  rw [List.set_set] at h1
  exact h1
theorem Own.put3 {w : World} {base g m cap i : Nat} {L : List Rw} {y0 y1 y2 y3 y4} (h : Own w base (.slice (some ⟨g, 0, none⟩) m cap) (L.set i (y0, y1, y2, y3, y4))) (hi : i < L.length) (v : Int) : Own (w.setCell ⟨g, i * 5 + 3, none⟩ (.int .i64 v)) base (.slice (some ⟨g, 0, none⟩) m cap) (L.set i (y0, y1, y2, v, y4)) := by
  have h1 := h.set (i := i) (j := 3) (v := .int .i64 v) (y := (y0, y1, y2, v, y4)) (by rw [List.length_set]; exact hi) (by omega) (fun k hk => by
    rw [rat_set hi, if_pos rfl]
    match k, hk with
    | 0, _ => rfl
    | 1, _ => rfl
    | 2, _ => rfl
    | 3, _ => rfl
    | 4, _ => rfl)
  rw [List.set_set] at h1
  exact h1
theorem Own.put4 {w : World} {base g m cap i : Nat} {L : List Rw} {y0 y1 y2 y3 y4} (h : Own w base (.slice (some ⟨g, 0, none⟩) m cap) (L.set i (y0, y1, y2, y3, y4))) (hi : i < L.length) (v : Bool) : Own (w.setCell ⟨g, i * 5 + 4, none⟩ (.bool v)) base (.slice (some ⟨g, 0, none⟩) m cap) (L.set i (y0, y1, y2, y3, v)) := by
  have h1 := h.set (i := i) (j := 4) (v := .bool v) (y := (y0, y1, y2, y3, v)) (by rw [List.length_set]; exact hi) (by omega) (fun k hk => by
    rw [rat_set hi, if_pos rfl]
    match k, hk with
    | 0, _ => rfl
    | 1, _ => rfl
    | 2, _ => rfl
    | 3, _ => rfl
    | 4, _ => rfl)
  rw [List.set_set] at h1
  exact h1
set_option maxRecDepth 100000 in
set_option maxHeartbeats 8000000 in
theorem markS_any (base : Nat) (v : Value) (L : List Rw) (k : Nat) (w : World) (h : Own w base v L) (h1 : 1 ≤ k) (h2 : k + 5 * L.length ≤ 1099511627776) :
    Calls Try.prog 24 #[v, .int .i64 k] w fun e w' => e = .returned (.int .i64 ((k + 5 * L.length : Nat) : Int)) ∧ Own w' base v (markX k L.length) ∧ Only (ob w v) w w' := by
  obtain ⟨a, cap, rfl, hcap, hcm, hR, hna, hsome⟩ := h.form
  cases a with
  | none =>
    have e := hR.none_nil
    subst e
    have e := hna rfl
    subst e
    clear hsome hna
    go_enter Try.func24, Try.ntmps24
    go_wp2_with (fail)
    refine wp_loop_rounds 1 ?_
    rw [rounds_succ]
    go_wp2_with (fail)
    go_ret
    exact ⟨by simp, h, Only.refl _ _⟩
  | some x =>
    obtain ⟨g, rfl, hbg, hgl⟩ := hsome x rfl
    have eo : ob w (.slice (some ⟨g, 0, none⟩) L.length cap) = g := rfl
    rw [eo]
    have HO := hidIt h
    generalize hn : L.length = m at *
    have HN := hidIt hn
    clear h hR hna hsome hn eo hcm
    go_enter Try.func24, Try.ntmps24
    go_wp2_with (fail)
    go_loopw [1, 5] (fun z y wx => ∃ (i : Nat) (M : List Rw), y = .int .i64 i ∧ z = .int .i64 ((k + 5 * i : Nat) : Int) ∧ i ≤ m ∧ M.length = m ∧ Hid (∀ j, j < i → rat M j = (mt (k + 5 * j), mt (k + 5 * j + 1), ((k + 5 * j + 2 : Nat) : Int), ((k + 5 * j + 3 : Nat) : Int), decide ((k + 5 * j + 4) % 3 = 0))) ∧ Hid (Own wx base (.slice (some ⟨g, 0, none⟩) m cap) M) ∧ Hid (Only g w wx)) (fun _ y _ => (m - intOf y).toNat)
    case atStart => exact ⟨0, L, rfl, rfl, by omega, HN.out, hidIt (fun j hj => by omega), HO, hidIt (Only.refl _ _)⟩
    case round =>
      obtain ⟨i, M, rfl, rfl, hi, hM, hE, HOx, HY⟩ := hrel
      have HM := hidIt hM
      clear hM HO
      by_cases hin : i < m
      · have hin' : (i : Int) < (m : Int) := by omega
        have HMi : Hid (i < M.length) := hidIt (by rw [HM.out]; exact hin)
        generalize hk : k + 5 * i = q
        have HK := hidIt hk
        clear hk
        have q1 : q + 5 ≤ 1099511627776 := by have := HK.out; omega
        have CM0 := hidIt (fun w => Nm.markText_any q w (by have := HK.out; omega) (by omega))
        have CM1 := hidIt (fun w => show Calls Try.prog 28 #[.int .i64 ((q : Int) + 1)] w fun e w' => e = .returned (.string (mt (q + 1))) ∧ Below w.heap.size w w' by
          rw [show (q : Int) + 1 = ((q + 1 : Nat) : Int) by omega]; exact Nm.markText_any (q + 1) w (by have := HK.out; omega) (by omega))
        obtain ⟨X4, hX4⟩ : ∃ X : Nat, X = (q + 4) % 3 := ⟨_, rfl⟩
        have et4 : ((q : Int) + 1 + 1 + 1 + 1).tmod 3 = (X4 : Int) := by rw [Int.tmod_eq_emod_of_nonneg (by omega), hX4]; omega
        have em4 : ((q : Int) + 1 + 1 + 1 + 1) % 3 = (X4 : Int) := by rw [hX4]; omega
        obtain ⟨bm4, hbm4⟩ : ∃ bm, ((X4 : Int) == 0) = bm := ⟨_, rfl⟩
        have hbw4 : decide ((q + 4) % 3 = 0) = bm4 := by rw [← hbm4, ← hX4, Bool.eq_iff_iff]; simp
        have HEY : Hid ((mt q, mt (q + 1), (q : Int) + 1 + 1, (q : Int) + 1 + 1 + 1, bm4) = (mt (q), mt (q + 1), ((q + 2 : Nat) : Int), ((q + 3 : Nat) : Int), decide ((q + 4) % 3 = 0))) := hidIt (by rw [show (q : Int) + 1 + 1 + 1 = ((q + 3 : Nat) : Int) by omega, show (q : Int) + 1 + 1 = ((q + 2 : Nat) : Int) by omega, ← hbw4])
        generalize hmt0 : mt q = tx0 at CM0
        have HT0 := hidIt hmt0
        clear hmt0
        generalize hmt1 : mt (q + 1) = tx1 at CM1
        have HT1 := hidIt hmt1
        clear hmt1
        have HZ4 := hidIt hX4
        have HW4 := hidIt hbw4
        clear hX4 hbw4
        have HO : Hid (Own wr base (.slice (some ⟨g, 0, none⟩) m cap) (M.set i (rat M i))) := hidIt (by rw [set_self]; exact HOx.out)
        clear HOx
        generalize rat M i = r at HO
        obtain ⟨r0, r1, r2, r3, r4⟩ := r
        go_wp2_with (fail)
        refine (CM0.out _).mono ?_
        rintro e w1 ⟨rfl, hb⟩
        replace HO := hidIt (HO.out.kept hb)
        replace HY := hidIt (HY.out.trans (Only.of_below hb))
        clear hb
        have z0 := HO.out.at (i := i) (by rw [List.length_set]; exact HMi.out) (j := 0) (by omega)
        have f0 := HO.out.free (i * 5)
        simp only [rcell, Nat.add_zero] at z0
        replace HO := hidIt (HO.out.put0 HMi.out (tx0))
        replace HY := hidIt (HY.out.setCell (i * 5) (.string (tx0)))
        go_wp2_with (fail)
        refine (CM1.out _).mono ?_
        rintro e w2 ⟨rfl, hb⟩
        replace HO := hidIt (HO.out.kept hb)
        replace HY := hidIt (HY.out.trans (Only.of_below hb))
        clear hb
        have z1 := HO.out.at (i := i) (by rw [List.length_set]; exact HMi.out) (j := 1) (by omega)
        have f1 := HO.out.free (i * 5 + 1)
        have z2 := HO.out.at (i := i) (by rw [List.length_set]; exact HMi.out) (j := 2) (by omega)
        have f2 := HO.out.free (i * 5 + 2)
        have z3 := HO.out.at (i := i) (by rw [List.length_set]; exact HMi.out) (j := 3) (by omega)
        have f3 := HO.out.free (i * 5 + 3)
        have z4 := HO.out.at (i := i) (by rw [List.length_set]; exact HMi.out) (j := 4) (by omega)
        have f4 := HO.out.free (i * 5 + 4)
        simp only [rcell, Nat.add_zero] at z1 z2 z3 z4
        replace HO := hidIt ((((HO.out.put1 HMi.out (tx1)).put2 HMi.out ((q : Int) + 1 + 1)).put3 HMi.out ((q : Int) + 1 + 1 + 1)).put4 HMi.out (bm4))
        replace HY := hidIt ((((HY.out.setCell (i * 5 + 1) (.string (tx1))).setCell (i * 5 + 2) (.int .i64 ((q : Int) + 1 + 1))).setCell (i * 5 + 3) (.int .i64 ((q : Int) + 1 + 1 + 1))).setCell (i * 5 + 4) (.bool (bm4)))
        go_wp2_with (fail)
        refine ⟨⟨i + 1, _, by simp, ?_, by omega, by rw [List.length_set]; exact HM.out, hidIt (fun j hj => ?_), HO, HY⟩, by simp [intOf]; omega⟩
        · have := HK.out
          congr 1
          omega
        · rw [rat_set HMi.out]
          split
          · next e =>
            subst e
            rw [HK.out, ← HEY.out, HT0.out, HT1.out]
          · exact hE.out j (by omega)
      · have hin' : ¬ (i : Int) < (m : Int) := by omega
        have HI : Hid (i = m) := hidIt (by omega)
        have e : M = markX k m := ext_rat (by rw [HM.out, markX_length]) (fun j hj => by rw [HM.out] at hj; rw [hE.out j (by have := HI.out; omega), rat_markX _ _ _ hj])
        subst e
        have ei : i = m := HI.out
        subst ei
        generalize hk : k + 5 * i = q
        go_wp2_with (fail)
        go_ret
        exact ⟨rfl, HOx.out, HY.out⟩
set_option maxRecDepth 100000 in
set_option maxHeartbeats 8000000 in
theorem heldS_any (a : Option Addr) (cap m k : Nat) (w : World) (h : Rd w a (markX k m)) (h1 : 1 ≤ k) (h2 : k + 5 * m ≤ 1099511627776) :
    Calls Try.prog 29 #[.slice a m cap, .int .i64 k] w fun e w' => e = .returned (.int .i64 ((k + 5 * m : Nat) : Int)) ∧ Below w.heap.size w w' := by
  have HR := hidIt h
  clear h
  go_enter Try.func29, Try.ntmps29
  go_wp2_with (fail)
  go_loopw [1, 5] (fun z y wx => ∃ i : Nat, y = .int .i64 i ∧ z = .int .i64 ((k + 5 * i : Nat) : Int) ∧ i ≤ m ∧ Hid (Below w.heap.size w wx)) (fun _ y _ => (m - intOf y).toNat)
  case atStart => exact ⟨0, rfl, rfl, by omega, hidIt (Below.refl _ _)⟩
  case round =>
    obtain ⟨i, rfl, rfl, hi, HB⟩ := hrel
    by_cases hin : i < m
    · have hin' : (i : Int) < (m : Int) := by omega
      obtain ⟨b, off, rfl, c0, c1, c2, c3, c4⟩ := (HR.out.kept HB.out).all (i := i) (by rw [markX_length]; exact hin)
      rw [rat_markX _ _ _ hin] at c0 c1 c2 c3 c4
      simp only at c0 c1 c2 c3 c4
      have q3 : Hid (k + 5 * (i + 1) = k + 5 * i + 5) := hidIt (by omega)
      have q1 : k + 5 * i + 5 ≤ 1099511627776 := by omega
      have HK : Hid (1 ≤ k + 5 * i) := hidIt (by omega)
      generalize k + 5 * i = q at c0 c1 c2 c3 c4 q1 q3 HK
      have CM0 := hidIt (fun w => Nm.markText_any q w (by have := HK.out; omega) (by omega))
      have CM1 := hidIt (fun w => show Calls Try.prog 28 #[.int .i64 ((q : Int) + 1)] w fun e w' => e = .returned (.string (mt (q + 1))) ∧ Below w.heap.size w w' by
        rw [show (q : Int) + 1 = ((q + 1 : Nat) : Int) by omega]; exact Nm.markText_any (q + 1) w (by have := HK.out; omega) (by omega))
      obtain ⟨X4, hX4⟩ : ∃ X : Nat, X = (q + 4) % 3 := ⟨_, rfl⟩
      have et4 : ((q : Int) + 1 + 1 + 1 + 1).tmod 3 = (X4 : Int) := by rw [Int.tmod_eq_emod_of_nonneg (by omega), hX4]; omega
      have em4 : ((q : Int) + 1 + 1 + 1 + 1) % 3 = (X4 : Int) := by rw [hX4]; omega
      obtain ⟨bm4, hbm4⟩ : ∃ bm, ((X4 : Int) == 0) = bm := ⟨_, rfl⟩
      have hbw4 : decide ((q + 4) % 3 = 0) = bm4 := by rw [← hbm4, ← hX4, Bool.eq_iff_iff]; simp
      rw [show ((q + 2 : Nat) : Int) = (q : Int) + 1 + 1 by omega] at c2
      rw [show ((q + 3 : Nat) : Int) = (q : Int) + 1 + 1 + 1 by omega] at c3
      rw [hbw4] at c4
      generalize mt q = tx0 at CM0 c0
      generalize mt (q + 1) = tx1 at CM1 c1
      have hne2 : ((q : Int) + 1 + 1 != (q : Int) + 1 + 1) = false := by simp
      have hne3 : ((q : Int) + 1 + 1 + 1 != (q : Int) + 1 + 1 + 1) = false := by simp
      have hne4 : (bm4 == bm4) = true := by cases bm4 <;> rfl
      clear hX4 hbw4
      clear HR
      go_wp2_with (fail)
      haveI := BelowBy.one wr
      have g0 := fun p : BelowBy wr => p.cell c0
      refine wp_region_below (by kernel_rfl) (by kernel_rfl) ?_
      repeat (go_big_quiet_step (first | (go_at_call 28; refine calls_below (CM0.out _))))
      refine wpQuiet_nil ?_
      intro _ hw'
      obtain ⟨pq, rfl⟩ := hw'
      have k0 := pq.h
      generalize pq.world = w1 at k0 ⊢
      have HB1 := hidIt (HB.out.trans (k0.mono HB.out.size))
      replace c1 : w1.cell? _ = _ := (k0.cell (by simpa using cell_block c1)).trans c1
      replace c2 : w1.cell? _ = _ := (k0.cell (by simpa using cell_block c2)).trans c2
      replace c3 : w1.cell? _ = _ := (k0.cell (by simpa using cell_block c3)).trans c3
      replace c4 : w1.cell? _ = _ := (k0.cell (by simpa using cell_block c4)).trans c4
      clear k0 g0 c0
      go_wp2_with (fail)
      haveI := BelowBy.one w1
      have g1 := fun p : BelowBy w1 => p.cell c1
      refine wp_region_below (by kernel_rfl) (by kernel_rfl) ?_
      repeat (go_big_quiet_step (first | (go_at_call 28; refine calls_below (CM1.out _))))
      refine wpQuiet_nil ?_
      intro _ hw'
      obtain ⟨pq, rfl⟩ := hw'
      have k1 := pq.h
      generalize pq.world = w2 at k1 ⊢
      have HB2 := hidIt (HB1.out.trans (k1.mono HB1.out.size))
      replace c2 : w2.cell? _ = _ := (k1.cell (by simpa using cell_block c2)).trans c2
      replace c3 : w2.cell? _ = _ := (k1.cell (by simpa using cell_block c3)).trans c3
      replace c4 : w2.cell? _ = _ := (k1.cell (by simpa using cell_block c4)).trans c4
      clear k1 g1 c1
      go_wp2_with (fail)
      refine ⟨⟨i + 1, by simp, ?_, by omega, HB2⟩, by simp [intOf]; omega⟩
      rw [q3.out]
      congr 1
    · have hin' : ¬ (i : Int) < (m : Int) := by omega
      have ei : i = m := by omega
      subst ei
      generalize hk : k + 5 * i = q
      go_wp2_with (fail)
      go_ret
      exact ⟨rfl, HB.out⟩
end Go.Proofs.Ytgbnkkjjgodilaa.En
namespace Go.Proofs.Ytgbnkkjjgodilaa.Iv
open Go.ChangeShapes Go.WideShapes Go.ChangeAt Go.RowKit
set_option linter.unusedVariables false
theorem hidIt {p : Prop} (h : p) : Hid p := h
def iat (L : List Int) (i : Nat) : Int := L.getD i 0
theorem iat_at {L : List Int} {i : Nat} (h : i < L.length) : iat L i = L[i] := by
  unfold iat
  rw [List.getD_eq_getElem?_getD, List.getElem?_eq_getElem h]
  rfl
abbrev icells (L : List Int) : List Value := L.map (Value.int .i64)
theorem icells_at {L : List Int} {i : Nat} (h : i < L.length) : (icells L)[i]? = some (.int .i64 (iat L i)) := by
  rw [iat_at h, List.getElem?_map, List.getElem?_eq_getElem h]
  rfl
theorem icells_one (L : List Int) : ∀ u ∈ icells L, u.oneCell' = true := by
  intro u hu
  obtain ⟨s, _, rfl⟩ := List.mem_map.1 hu
  rfl
/-- A slice at address a reads as the list L. -/
structure Rd (w : World) (a : Option Addr) (L : List Int) : Prop where
  cell : ∀ i, i < L.length → ∃ b off, a = some ⟨b, off, none⟩ ∧ w.cell? ⟨b, off + i, none⟩ = some (.int .i64 (iat L i))
theorem cell_block {w : World} {b o : Nat} {v : Value} (h : w.cell? ⟨b, o, none⟩ = some v) : b < w.heap.size := World.block_lt_of_cell? w ⟨b, o, none⟩ h
theorem Rd.kept {w w' : World} {a : Option Addr} {L : List Int} (h : Rd w a L) (k : Below w.heap.size w w') : Rd w' a L :=
  ⟨fun i hi => by
    obtain ⟨b, off, e, c0⟩ := h.cell i hi
    exact ⟨b, off, e, by rw [k.cell (by simpa using cell_block c0)]; exact c0⟩⟩
theorem Rd.alloc {w : World} {a : Option Addr} {L : List Int} (h : Rd w a L) (o : Obj) : Rd (w.alloc o) a L := h.kept ((Below.refl _ _).alloc (Nat.le_refl _) o)
theorem Rd.drew {w : World} {a : Option Addr} {L : List Int} (h : Rd w a L) : Rd w.drew a L := ⟨h.cell⟩
theorem Rd.nil (w : World) (a : Option Addr) : Rd w a [] := ⟨fun i hi => by simp at hi⟩
/-- The slice v owns the numbers L in a row of the call's own. -/
def Own (w : World) (base : Nat) (v : Value) (L : List Int) : Prop := w.ownsRow base 2 1 v L.length (icells L)
theorem Own.form {w : World} {base : Nat} {v : Value} {L : List Int} (h : Own w base v L) : ∃ a cap, v = .slice a L.length cap ∧ L.length ≤ cap ∧ cap ≤ maxLen ∧ Rd w a L ∧ (a = none → cap = 0) ∧ (∀ x, a = some x → ∃ g, x = ⟨g, 0, none⟩ ∧ base ≤ g ∧ g < w.heap.size) := by
  have h' := h
  rcases h.2 with ⟨rfl, h0⟩ | ⟨g, cap, cur, rfl, hb, hg, hn, hm, rest⟩
  · exact ⟨none, 0, by rw [h0], by omega, by decide, ⟨fun i hi => by omega⟩, fun _ => rfl, fun x hx => by cases hx⟩
  · refine ⟨some ⟨g, 0, none⟩, cap, rfl, hn, hm, ⟨fun i hi => ⟨g, 0, rfl, ?_⟩⟩, (fun e => by cases e), fun x hx => ⟨g, by cases hx; rfl, hb, (Array.getElem?_eq_some_iff.1 hg).1⟩⟩
    rw [Nat.zero_add, World.ownsRow.cellAt h' _ (by omega), icells_at hi]
theorem Own.kept {w w' : World} {base : Nat} {v : Value} {L : List Int} (h : Own w base v L) (k : Below w.heap.size w w') : Own w' base v L :=
  World.ownsRow.kept (row := none) h ⟨k.os, k.tape, k.output, k.size, fun i hi _ => k.block i hi⟩ (by cases v.ownBlock <;> simp)
theorem Own.alloc {w : World} {base : Nat} {v : Value} {L : List Int} (h : Own w base v L) (o : Obj) : Own (w.alloc o) base v L := World.ownsRow.alloc h o
theorem Own.drewN {w : World} {base : Nat} {v : Value} {L : List Int} (h : Own w base v L) (n : Nat) : Own (w.drewN n) base v L := h.kept ⟨rfl, rfl, rfl, Nat.le_refl _, fun _ _ => rfl⟩
theorem Own.only {w w' : World} {base c : Nat} {v : Value} {L : List Int} (h : Own w base v L) (k : Only c w w') (hc : c < base ∨ ∀ g, v.ownBlock = some g → g ≠ c) : Own w' base v L := by
  refine World.ownsRow.kept h (row := some c) ⟨k.os, k.tape, k.output, k.size, fun i hi hne => k.block i hi (fun e => hne (by rw [e]))⟩ ?_
  cases hv : v.ownBlock with
  | none => exact .inl rfl
  | some g =>
    refine .inr (fun e => ?_)
    cases e
    rcases hc with hc | hc
    · have := (World.ownsRow.lt h _ hv).1; omega
    · exact hc _ hv rfl
theorem Own.mono {w : World} {base b' : Nat} {v : Value} {L : List Int} (h : Own w base v L) (hb : b' ≤ base) : Own w b' v L := by
  refine ⟨h.1, ?_⟩
  rcases h.2 with h0 | ⟨g, cap, cur, e, hb', r⟩
  · exact .inl h0
  · exact .inr ⟨g, cap, cur, e, by omega, r⟩
theorem Own.new (w : World) : Own (w.alloc (.cells #[] 2)) w.heap.size (.slice (some ⟨w.heap.size, 0, none⟩) 0 0) [] :=
  World.ownsRow_made w #[] 0 (Nat.le_refl _) (by decide) rfl
theorem Own.more {w : World} {base : Nat} {v : Value} {L : List Int} {s : Int} (h : w.ownsRow base 2 1 v (L.length + 1) (icells L ++ [.int .i64 s])) : Own w base v (L ++ [s]) := by
  unfold Own
  rw [List.length_append, icells, List.map_append]
  exact h
theorem Own.free {w : World} {base g n cap : Nat} {L : List Int} (h : Own w base (.slice (some ⟨g, 0, none⟩) n cap) L) (j : Nat) : w.frozen? ⟨g, j, none⟩ = false := by
  obtain ⟨a, c', e, _⟩ := h.form
  cases e
  exact World.ownsRow.frozenAt h j
theorem Own.at {w : World} {base g n cap i : Nat} {L : List Int} (h : Own w base (.slice (some ⟨g, 0, none⟩) n cap) L) (hi : i < L.length) :
    w.cell? ⟨g, i, none⟩ = some (.int .i64 (iat L i)) ∧ w.frozen? ⟨g, i, none⟩ = false := by
  obtain ⟨a', c', e1, _, _, r, _⟩ := h.form
  cases e1
  obtain ⟨b', o', e2, k0⟩ := r.cell i hi
  cases e2
  exact ⟨by simpa using k0, h.free _⟩
theorem grown_below {w w' : World} {base B : Nat} {v : Value} {L : List Int} (h : Own w base v L) (g : w.grownBy w' v.ownBlock) (hB : B ≤ base) (hs : B ≤ w.heap.size) : Below B w w' :=
  ⟨g.os, g.tape, g.output, g.size, fun k hk => g.block k (by omega) (fun e => by have := (World.ownsRow.lt h k e.symm).1; omega)⟩
theorem Own.set {w : World} {base g n cap i : Nat} {L : List Int} (h : Own w base (.slice (some ⟨g, 0, none⟩) n cap) L) (s : Int) :
    Own (w.setCell ⟨g, i, none⟩ (.int .i64 s)) base (.slice (some ⟨g, 0, none⟩) n cap) (L.set i s) := by
  obtain ⟨a, c', e, _⟩ := h.form
  cases e
  have := (World.ownsRow.stored h i (.int .i64 s)).1
  unfold Own
  rw [List.length_set, icells, List.map_set]
  exact this
theorem ext_iat {L M : List Int} (hl : L.length = M.length) (h : ∀ i, i < L.length → iat L i = iat M i) : L = M := by
  apply List.ext_getElem hl
  intro i h1 h2
  have := h i h1
  rwa [iat_at h1, iat_at h2] at this
theorem iat_set {L : List Int} {i j : Nat} {x : Int} (h : i < L.length) : iat (L.set i x) j = if i = j then x else iat L j := by
  unfold iat
  rw [List.getD_eq_getElem?_getD, List.getD_eq_getElem?_getD, List.getElem?_set]
  by_cases e : i = j
  · subst e; simp [h]
  · simp [e]
/-- The slice at a, of capacity cap, that came in reads as L. -/
structure In (w : World) (a : Option Addr) (cap : Nat) (L : List Int) : Prop where
  rd : Rd w a L
  le : L.length ≤ cap
  cap : cap ≤ 9223372036854775807
theorem iat_take {zs : List Int} {n i : Nat} (h : i < n) : iat (zs.take n) i = iat zs i := by
  unfold iat
  rw [List.getD_eq_getElem?_getD, List.getD_eq_getElem?_getD, List.getElem?_take, if_pos h]
end Go.Proofs.Ytgbnkkjjgodilaa.Iv
namespace Go.Proofs.Ytgbnkkjjgodilaa.Iv
open Go.ChangeShapes Go.WideShapes Go.ChangeAt Go.RowKit
set_option linter.unusedVariables false
def markI (k n : Nat) : List Int := (List.range n).map fun j => ((k + j : Nat) : Int)
theorem markI_length (k n : Nat) : (markI k n).length = n := by simp [markI]
theorem iat_markI (k n j : Nat) (h : j < n) : iat (markI k n) j = ((k + j : Nat) : Int) := by
  rw [iat_at (by rw [markI_length]; exact h)]
  simp [markI]
theorem Rd.none_nil {w : World} {L : List Int} (h : Rd w none L) : L = [] := by
  cases L with
  | nil => rfl
  | cons x r =>
    obtain ⟨b, o, e, _⟩ := h.cell 0 (by simp)
    cases e
/-- The block that a slice owns; of none, one that is not there. -/
def ob (w : World) (v : Value) : Nat := v.ownBlock.getD w.heap.size
set_option maxRecDepth 100000 in
set_option maxHeartbeats 4000000 in
theorem markInt64S_any (base : Nat) (v : Value) (L : List Int) (k : Nat) (w : World) (h : Own w base v L) (h1 : 1 ≤ k) (h2 : k + L.length ≤ 1099511627776) :
    Calls Try.prog 16 #[v, .int .i64 k] w fun e w' => e = .returned (.int .i64 ((k + L.length : Nat) : Int)) ∧ Own w' base v (markI k L.length) ∧ Only (ob w v) w w' := by
  obtain ⟨a, cap, rfl, hcap, hcm, hR, hna, hsome⟩ := h.form
  cases a with
  | none =>
    have e := hR.none_nil
    subst e
    have e := hna rfl
    subst e
    clear hsome hna
    go_enter Try.func16, Try.ntmps16
    go_wp2_with (fail)
    refine wp_loop_rounds 1 ?_
    rw [rounds_succ]
    go_wp2_with (fail)
    go_ret
    exact ⟨by simp, h, Only.refl _ _⟩
  | some x =>
    obtain ⟨g, rfl, hbg, hgl⟩ := hsome x rfl
    have eo : ob w (.slice (some ⟨g, 0, none⟩) L.length cap) = g := rfl
    rw [eo]
    have HO := hidIt h
    generalize hn : L.length = n at *
    have HN := hidIt hn
    clear h hR hna hsome hn eo hcm
    go_enter Try.func16, Try.ntmps16
    go_wp2_with (fail)
    go_loopw [1, 5] (fun z y wx => ∃ (i : Nat) (M : List Int), y = .int .i64 i ∧ z = .int .i64 ((k + i : Nat) : Int) ∧ i ≤ n ∧ M.length = n ∧ Hid (∀ j, j < i → iat M j = ((k + j : Nat) : Int)) ∧ Hid (Own wx base (.slice (some ⟨g, 0, none⟩) n cap) M) ∧ Hid (Only g w wx)) (fun _ y _ => (n - intOf y).toNat)
    case atStart => exact ⟨0, L, rfl, rfl, by omega, HN.out, hidIt (fun j hj => by omega), HO, hidIt (Only.refl _ _)⟩
    case round =>
      obtain ⟨i, M, rfl, rfl, hi, hM, hE, HOx, HY⟩ := hrel
      have HM := hidIt hM
      clear hM HO
      by_cases hin : i < n
      · have hin' : (i : Int) < (n : Int) := by omega
        have hiM : i < M.length := by rw [HM.out]; exact hin
        generalize hk : k + i = q
        have HK := hidIt hk
        clear hk
        have q1 : q + 1 ≤ 1099511627776 := by have := HK.out; omega
        obtain ⟨c0, f0⟩ := HOx.out.at hiM
        have HL := hidIt (HOx.out.set (i := i) ((q : Nat) : Int))
        have HY1 := hidIt (HY.out.setCell i (.int .i64 ((q : Nat) : Int)))
        have HMi := hidIt hiM
        clear HOx HY hiM
        go_wp2_with (fail)
        refine ⟨⟨i + 1, _, by simp, ?_, by omega, by rw [List.length_set]; exact HM.out, hidIt (fun j hj => ?_), HL, HY1⟩, by simp [intOf]; omega⟩
        · have := HK.out
          congr 1
          omega
        · rw [iat_set HMi.out]
          split
          · next e =>
            subst e
            rw [HK.out]
          · exact hE.out j (by omega)
      · have hin' : ¬ (i : Int) < (n : Int) := by omega
        have ei : i = n := by omega
        subst ei
        have e : M = markI k i := ext_iat (by rw [HM.out, markI_length]) (fun j hj => by rw [HM.out] at hj; rw [hE.out j hj, iat_markI _ _ _ hj])
        subst e
        generalize hk : k + i = q
        go_wp2_with (fail)
        go_ret
        exact ⟨rfl, HOx.out, HY.out⟩
set_option maxRecDepth 100000 in
set_option maxHeartbeats 4000000 in
theorem heldInt64S_any (a : Option Addr) (cap n k : Nat) (w : World) (h : Rd w a (markI k n)) (h1 : 1 ≤ k) (h2 : k + n ≤ 1099511627776) :
    Calls Try.prog 18 #[.slice a n cap, .int .i64 k] w fun e w' => e = .returned (.int .i64 ((k + n : Nat) : Int)) ∧ Below w.heap.size w w' := by
  have HR := hidIt h
  clear h
  go_enter Try.func18, Try.ntmps18
  go_wp2_with (fail)
  go_loopw [1, 5] (fun z y wx => ∃ i : Nat, y = .int .i64 i ∧ z = .int .i64 ((k + i : Nat) : Int) ∧ i ≤ n ∧ Hid (Below w.heap.size w wx)) (fun _ y _ => (n - intOf y).toNat)
  case atStart => exact ⟨0, rfl, rfl, by omega, hidIt (Below.refl _ _)⟩
  case round =>
    obtain ⟨i, rfl, rfl, hi, HB⟩ := hrel
    by_cases hin : i < n
    · have hin' : (i : Int) < (n : Int) := by omega
      obtain ⟨b, off, rfl, c0⟩ := (HR.out.kept HB.out).cell i (by rw [markI_length]; exact hin)
      rw [iat_markI _ _ _ hin] at c0
      have q1 : k + i + 1 ≤ 1099511627776 := by omega
      have q3 : Hid (k + (i + 1) = k + i + 1) := hidIt (by omega)
      generalize k + i = q at c0 q1 q3
      have hqq : ((q : Int) != (q : Int)) = false := by simp
      clear HR
      go_wp2_with (fail)
      refine ⟨⟨i + 1, by simp, ?_, by omega, HB⟩, by simp [intOf]; omega⟩
      rw [q3.out]
      congr 1
    · have hin' : ¬ (i : Int) < (n : Int) := by omega
      have ei : i = n := by omega
      subst ei
      generalize hk : k + i = q
      go_wp2_with (fail)
      go_ret
      exact ⟨rfl, HB.out⟩
end Go.Proofs.Ytgbnkkjjgodilaa.Iv
namespace Go.Proofs.Ytgbnkkjjgodilaa.Iv
open Go.ChangeShapes Go.WideShapes Go.ChangeAt Go.RowKit
set_option linter.unusedVariables false
set_option maxRecDepth 100000 in
set_option maxHeartbeats 4000000 in
theorem eqInt64S_any (a b : Option Addr) (ca cb : Nat) (L : List Int) (w : World) (ha : Rd w a L) (hb : Rd w b L) (hl : L.length ≤ 9223372036854775806) :
    Calls Try.prog 14 #[.slice a L.length ca, .slice b L.length cb] w fun e w' => e = .returned (.bool true) ∧ Below w.heap.size w w' := by
  generalize hn : L.length = n at *
  have HA := hidIt ha
  have HB := hidIt hb
  have HN := hidIt hn
  clear ha hb hn
  have hnn : ((n : Int) != (n : Int)) = false := by simp
  go_enter Try.func14, Try.ntmps14
  go_wp2_with (fail)
  go_loopw [5] (fun y wx => ∃ i : Nat, y = .int .i64 i ∧ i ≤ n ∧ Below w.heap.size w wx) (fun y _ => (n - intOf y).toNat)
  case atStart => exact ⟨0, rfl, by omega, Below.refl _ _⟩
  case round =>
    obtain ⟨i, rfl, hi, hB⟩ := hrel
    have RA := hidIt (HA.out.kept hB)
    have RB := hidIt (HB.out.kept hB)
    have KX := hidIt hB
    clear hB
    by_cases hin : i < n
    · have hin' : (i : Int) < (n : Int) := by omega
      obtain ⟨b1, o1, rfl, c0⟩ := RA.out.cell i (by rw [HN.out]; omega)
      obtain ⟨b2, o2, rfl, d0⟩ := RB.out.cell i (by rw [HN.out]; omega)
      generalize iat L i = s at c0 d0
      clear RA RB HA HB
      go_wp2_with (fail)
      go_quiet (fail)
      go_wp2_with (fail)
      exact ⟨⟨i + 1, by simp, by omega, Go.Proofs.Ytgbnkkjjgodilaa.Below.drewN KX.out _⟩, by simp [intOf]; omega⟩
    · have hin' : ¬ (i : Int) < (n : Int) := by omega
      go_wp2_with (fail)
      go_ret
      exact ⟨rfl, KX.out⟩
end Go.Proofs.Ytgbnkkjjgodilaa.Iv
namespace Go.Proofs.Ytgbnkkjjgodilaa.Mk
set_option linter.unusedVariables false
abbrev Bytes := List UInt8
structure En where
  key : Int
  value : Bytes
  time : Int
  node : Int
  gone : Bool
  deriving DecidableEq
def okE (e : En) : Bool := decide (0 ≤ e.key) && decide (e.key ≤ 7) && decide (0 ≤ e.time) && decide (e.time ≤ 1000000) && decide (0 ≤ e.node) && decide (e.node ≤ 2)
def newB (a b : En) : Bool :=
  if a.time ≠ b.time then decide (b.time < a.time)
  else if a.node ≠ b.node then decide (b.node < a.node)
  else if a.gone ≠ b.gone then a.gone
  else decide (b.value < a.value)
theorem newB_1 {a b : En} (h : a.time ≠ b.time) : newB a b = decide (b.time < a.time) := by unfold newB; rw [if_pos h]
theorem newB_2 {a b : En} (h : a.time = b.time) (k : a.node ≠ b.node) : newB a b = decide (b.node < a.node) := by unfold newB; rw [if_neg (by simp [h]), if_pos k]
theorem newB_3 {a b : En} (h : a.time = b.time) (k : a.node = b.node) (g : a.gone ≠ b.gone) : newB a b = a.gone := by unfold newB; rw [if_neg (by simp [h]), if_neg (by simp [k]), if_pos g]
theorem newB_4 {a b : En} (h : a.time = b.time) (k : a.node = b.node) (g : a.gone = b.gone) : newB a b = decide (b.value < a.value) := by unfold newB; rw [if_neg (by simp [h]), if_neg (by simp [k]), if_neg (by simp [g])]
theorem lt_total {a b : Bytes} (h : ¬ a < b) (k : ¬ b < a) : a = b := List.le_antisymm k h
theorem new_irrefl (a : En) : newB a a = false := by
  unfold newB
  simp [List.lt_irrefl]
theorem new_asymm {a b : En} (h : newB a b = true) : newB b a = false := by
  unfold newB at h ⊢
  by_cases h1 : a.time = b.time
  · rw [if_neg (by simp [h1])] at h
    rw [if_neg (by simp [h1])]
    by_cases h2 : a.node = b.node
    · rw [if_neg (by simp [h2])] at h
      rw [if_neg (by simp [h2])]
      by_cases h3 : a.gone = b.gone
      · rw [if_neg (by simp [h3])] at h
        rw [if_neg (by simp [h3])]
        exact decide_eq_false (fun k => List.lt_irrefl _ (List.lt_trans k (of_decide_eq_true h)))
      · rw [if_pos h3] at h
        rw [if_pos (fun e => h3 e.symm)]
        cases hb : b.gone
        · rfl
        · rw [h, hb] at h3; exact absurd rfl h3
    · rw [if_pos h2] at h
      rw [if_pos (fun e => h2 e.symm)]
      have := of_decide_eq_true h
      exact decide_eq_false (by omega)
  · rw [if_pos h1] at h
    rw [if_pos (fun e => h1 e.symm)]
    have := of_decide_eq_true h
    exact decide_eq_false (by omega)
/-- Of two Entries of which none is Newer all is alike but the Key. -/
theorem new_total {a b : En} (h : newB a b = false) (k : newB b a = false) : a.time = b.time ∧ a.node = b.node ∧ a.gone = b.gone ∧ a.value = b.value := by
  unfold newB at h k
  by_cases h1 : a.time = b.time
  · rw [if_neg (by simp [h1])] at h
    rw [if_neg (by simp [h1])] at k
    by_cases h2 : a.node = b.node
    · rw [if_neg (by simp [h2])] at h
      rw [if_neg (by simp [h2])] at k
      by_cases h3 : a.gone = b.gone
      · rw [if_neg (by simp [h3])] at h
        rw [if_neg (by simp [h3])] at k
        exact ⟨h1, h2, h3, lt_total (of_decide_eq_false k) (of_decide_eq_false h)⟩
      · rw [if_pos h3] at h
        rw [if_pos (fun e => h3 e.symm)] at k
        exact absurd (h.trans k.symm) h3
    · rw [if_pos h2] at h
      rw [if_pos (fun e => h2 e.symm)] at k
      have h' := of_decide_eq_false h
      have k' := of_decide_eq_false k
      exact absurd (by omega) h2
  · rw [if_pos h1] at h
    rw [if_pos (fun e => h1 e.symm)] at k
    have h' := of_decide_eq_false h
    have k' := of_decide_eq_false k
    exact absurd (by omega) h1
theorem new_trans {a b c : En} (h : newB a b = true) (k : newB b c = true) : newB a c = true := by
  unfold newB at h k ⊢
  by_cases t1 : a.time = b.time
  · rw [if_neg (by simp [t1])] at h
    by_cases t2 : b.time = c.time
    · rw [if_neg (by simp [t2])] at k
      rw [if_neg (by simp [t1, t2])]
      by_cases n1 : a.node = b.node
      · rw [if_neg (by simp [n1])] at h
        by_cases n2 : b.node = c.node
        · rw [if_neg (by simp [n2])] at k
          rw [if_neg (by simp [n1, n2])]
          by_cases g1 : a.gone = b.gone
          · rw [if_neg (by simp [g1])] at h
            by_cases g2 : b.gone = c.gone
            · rw [if_neg (by simp [g2])] at k
              rw [if_neg (by simp [g1, g2])]
              exact decide_eq_true (List.lt_trans (of_decide_eq_true k) (of_decide_eq_true h))
            · rw [if_pos g2] at k
              rw [if_pos (by rw [g1]; exact g2), g1]
              exact k
          · rw [if_pos g1] at h
            by_cases g2 : b.gone = c.gone
            · rw [if_pos (by rw [← g2]; exact g1)]
              exact h
            · rw [if_pos g2] at k
              exact absurd (h.trans k.symm) g1
        · rw [if_pos n2] at k
          rw [if_pos (by rw [n1]; exact n2), n1]
          exact k
      · rw [if_pos n1] at h
        have h' := of_decide_eq_true h
        by_cases n2 : b.node = c.node
        · rw [if_pos (by rw [← n2]; exact n1), ← n2]
          exact h
        · rw [if_pos n2] at k
          have k' := of_decide_eq_true k
          rw [if_pos (by omega)]
          exact decide_eq_true (by omega)
    · rw [if_pos t2] at k
      rw [if_pos (by rw [t1]; exact t2), t1]
      exact k
  · rw [if_pos t1] at h
    have h' := of_decide_eq_true h
    by_cases t2 : b.time = c.time
    · rw [if_pos (by rw [← t2]; exact t1), ← t2]
      exact h
    · rw [if_pos t2] at k
      have k' := of_decide_eq_true k
      rw [if_pos (by omega)]
      exact decide_eq_true (by omega)
theorem en_ext {a b : En} (hk : a.key = b.key) (h : newB a b = false) (k : newB b a = false) : a = b := by
  obtain ⟨h1, h2, h3, h4⟩ := new_total h k
  cases a
  cases b
  simp_all
/-- Keys that rise. -/
def Ris (L : List En) : Prop := L.Pairwise fun a b => a.key < b.key
def look (L : List En) (k : Int) : Option En := L.find? fun e => decide (e.key = k)
theorem look_nil (k : Int) : look [] k = none := rfl
theorem look_cons (a : En) (L : List En) (k : Int) : look (a :: L) k = if a.key = k then some a else look L k := by
  unfold look
  rw [List.find?_cons]
  by_cases h : a.key = k
  · rw [if_pos h]; simp [h]
  · rw [if_neg h]; simp [h]
theorem look_some {L : List En} {k : Int} {e : En} (h : look L k = some e) : e ∈ L ∧ e.key = k := by
  unfold look at h
  exact ⟨List.mem_of_find?_eq_some h, by simpa using List.find?_some h⟩
theorem look_none {L : List En} {k : Int} (h : look L k = none) : ∀ e ∈ L, e.key ≠ k := by
  unfold look at h
  intro e he
  have := List.find?_eq_none.1 h e he
  simpa using this
theorem look_none_of {L : List En} {k : Int} (h : ∀ e ∈ L, e.key ≠ k) : look L k = none := by
  unfold look
  exact List.find?_eq_none.2 (fun e he => by simpa using h e he)
theorem ris_cons {a : En} {L : List En} : Ris (a :: L) ↔ (∀ b ∈ L, a.key < b.key) ∧ Ris L := List.pairwise_cons
theorem look_mem {L : List En} (h : Ris L) {e : En} (he : e ∈ L) : look L e.key = some e := by
  induction L with
  | nil => cases he
  | cons a L ih =>
    obtain ⟨h1, h2⟩ := ris_cons.1 h
    rw [look_cons]
    rcases List.mem_cons.1 he with rfl | he
    · rw [if_pos rfl]
    · rw [if_neg (fun e' => Int.lt_irrefl _ (by have := h1 e he; rw [e'] at this; exact this))]
      exact ih h2 he
/-- Two books in which the same is found are one. -/
theorem ris_ext {L M : List En} (hL : Ris L) (hM : Ris M) (h : ∀ k, look L k = look M k) : L = M := by
  induction L generalizing M with
  | nil =>
    cases M with
    | nil => rfl
    | cons b M => have := h b.key; rw [look_nil, look_cons, if_pos rfl] at this; cases this
  | cons a L ih =>
    cases M with
    | nil => have := h a.key; rw [look_nil, look_cons, if_pos rfl] at this; cases this
    | cons b M =>
      obtain ⟨a1, a2⟩ := ris_cons.1 hL
      obtain ⟨b1, b2⟩ := ris_cons.1 hM
      have ea := h a.key
      have eb := h b.key
      rw [look_cons, if_pos rfl] at ea
      rw [look_cons b, if_pos rfl] at eb
      have hab : a = b := by
        obtain ⟨ma, _⟩ := look_some ea.symm
        obtain ⟨mb, _⟩ := look_some eb
        rcases List.mem_cons.1 ma with e | ma
        · exact e
        · rcases List.mem_cons.1 mb with e | mb
          · exact e.symm
          · exact absurd (Int.lt_trans (a1 b mb) (b1 a ma)) (Int.lt_irrefl _)
      subst hab
      rw [ih a2 b2 (fun k => ?_)]
      have hk := h k
      rw [look_cons, look_cons] at hk
      by_cases e : a.key = k
      · rw [look_none_of (fun x hx => by intro e'; have := a1 x hx; rw [e', e] at this; exact Int.lt_irrefl _ this), look_none_of (fun x hx => by intro e'; have := b1 x hx; rw [e', e] at this; exact Int.lt_irrefl _ this)]
      · rw [if_neg e, if_neg e] at hk
        exact hk
/-- Of two that may be there the one than which the other is not Newer. -/
def pickE : Option En → Option En → Option En
  | none, y => y
  | some x, none => some x
  | some x, some y => some (if newB y x then y else x)
/-- J is what A and B come to. -/
structure IsJoin (A B J : List En) : Prop where
  ris : Ris J
  at' : ∀ k, look J k = pickE (look A k) (look B k)
theorem IsJoin.unique {A B J K : List En} (h : IsJoin A B J) (k : IsJoin A B K) : J = K := ris_ext h.ris k.ris (fun x => (h.at' x).trans (k.at' x).symm)
/-- What two books come to, one way to reckon it. -/
def mergeE : List En → List En → List En
  | [], B => B
  | a :: A, [] => a :: A
  | a :: A, b :: B => if a.key < b.key then a :: mergeE A (b :: B) else if b.key < a.key then b :: mergeE (a :: A) B else (if newB b a then b else a) :: mergeE A B
  termination_by A B => A.length + B.length
theorem mergeE_nil (B : List En) : mergeE [] B = B := by unfold mergeE; rfl
theorem mergeE_right (A : List En) : mergeE A [] = A := by
  cases A with
  | nil => exact mergeE_nil []
  | cons a A => unfold mergeE; rfl
theorem mergeE_cons (a b : En) (A B : List En) : mergeE (a :: A) (b :: B) = if a.key < b.key then a :: mergeE A (b :: B) else if b.key < a.key then b :: mergeE (a :: A) B else (if newB b a then b else a) :: mergeE A B := by
  conv => lhs; unfold mergeE
theorem pick_none_right (x : Option En) : pickE x none = x := by cases x <;> rfl
theorem merge_mem : ∀ (A B : List En) {e : En}, e ∈ mergeE A B → e ∈ A ∨ e ∈ B
  | [], B, e, h => by rw [mergeE_nil] at h; exact .inr h
  | a :: A, [], e, h => by rw [mergeE_right] at h; exact .inl h
  | a :: A, b :: B, e, h => by
    rw [mergeE_cons] at h
    by_cases h1 : a.key < b.key
    · rw [if_pos h1] at h
      rcases List.mem_cons.1 h with rfl | h
      · exact .inl (List.mem_cons_self ..)
      · rcases merge_mem A (b :: B) h with h | h
        · exact .inl (List.mem_cons_of_mem _ h)
        · exact .inr h
    · rw [if_neg h1] at h
      by_cases h2 : b.key < a.key
      · rw [if_pos h2] at h
        rcases List.mem_cons.1 h with rfl | h
        · exact .inr (List.mem_cons_self ..)
        · rcases merge_mem (a :: A) B h with h | h
          · exact .inl h
          · exact .inr (List.mem_cons_of_mem _ h)
      · rw [if_neg h2] at h
        rcases List.mem_cons.1 h with h | h
        · cases hn : newB b a
          · rw [hn] at h; exact .inl (by rw [h]; exact List.mem_cons_self ..)
          · rw [hn] at h; exact .inr (by rw [h]; exact List.mem_cons_self ..)
        · rcases merge_mem A B h with h | h
          · exact .inl (List.mem_cons_of_mem _ h)
          · exact .inr (List.mem_cons_of_mem _ h)
  termination_by A B => A.length + B.length
theorem merge_join : ∀ (A B : List En), Ris A → Ris B → IsJoin A B (mergeE A B)
  | [], B, _, hB => by rw [mergeE_nil]; exact ⟨hB, fun k => rfl⟩
  | a :: A, [], hA, _ => by rw [mergeE_right]; exact ⟨hA, fun k => by rw [look_nil, pick_none_right]⟩
  | a :: A, b :: B, hA, hB => by
    obtain ⟨a1, a2⟩ := ris_cons.1 hA
    obtain ⟨b1, b2⟩ := ris_cons.1 hB
    have noA : ∀ k, a.key = k → look A k = none := fun k e => look_none_of (fun x hx e' => by have := a1 x hx; rw [e', e] at this; exact Int.lt_irrefl _ this)
    have noB : ∀ k, b.key = k → look B k = none := fun k e => look_none_of (fun x hx e' => by have := b1 x hx; rw [e', e] at this; exact Int.lt_irrefl _ this)
    rw [mergeE_cons]
    by_cases h1 : a.key < b.key
    · rw [if_pos h1]
      have ih := merge_join A (b :: B) a2 hB
      refine ⟨ris_cons.2 ⟨fun x hx => ?_, ih.ris⟩, fun k => ?_⟩
      · rcases merge_mem A (b :: B) hx with h | h
        · exact a1 x h
        · rcases List.mem_cons.1 h with rfl | h
          · exact h1
          · exact Int.lt_trans h1 (b1 x h)
      · rw [look_cons, look_cons a, ih.at']
        by_cases e : a.key = k
        · rw [if_pos e, if_pos e, look_none_of (fun x hx e' => ?_), pick_none_right]
          rcases List.mem_cons.1 hx with rfl | h
          · rw [e', e] at h1; exact Int.lt_irrefl _ h1
          · have := Int.lt_trans h1 (b1 x h); rw [e', e] at this; exact Int.lt_irrefl _ this
        · rw [if_neg e, if_neg e]
    · rw [if_neg h1]
      by_cases h2 : b.key < a.key
      · rw [if_pos h2]
        have ih := merge_join (a :: A) B hA b2
        refine ⟨ris_cons.2 ⟨fun x hx => ?_, ih.ris⟩, fun k => ?_⟩
        · rcases merge_mem (a :: A) B hx with h | h
          · rcases List.mem_cons.1 h with rfl | h
            · exact h2
            · exact Int.lt_trans h2 (a1 x h)
          · exact b1 x h
        · rw [look_cons, look_cons b B, ih.at']
          by_cases e : b.key = k
          · rw [if_pos e, if_pos e, look_none_of (L := a :: A) (fun x hx e' => ?_)]
            · rfl
            · rcases List.mem_cons.1 hx with rfl | h
              · rw [e', e] at h2; exact Int.lt_irrefl _ h2
              · have := Int.lt_trans h2 (a1 x h); rw [e', e] at this; exact Int.lt_irrefl _ this
          · rw [if_neg e, if_neg e]
      · rw [if_neg h2]
        have hk : a.key = b.key := Int.le_antisymm (Int.not_lt.1 h2) (Int.not_lt.1 h1)
        have ih := merge_join A B a2 b2
        have kk : (if newB b a = true then b else a).key = a.key := by split <;> simp [hk]
        refine ⟨ris_cons.2 ⟨fun x hx => ?_, ih.ris⟩, fun k => ?_⟩
        · rw [kk]
          rcases merge_mem A B hx with h | h
          · exact a1 x h
          · rw [hk]; exact b1 x h
        · rw [look_cons, look_cons a A, look_cons b B, ih.at', kk]
          by_cases e : a.key = k
          · rw [if_pos e, if_pos e, if_pos (show b.key = k from hk.symm.trans e)]
            rfl
          · rw [if_neg e, if_neg e, if_neg (fun e' => e (hk.trans e'))]
  termination_by A B => A.length + B.length
theorem merge_length : ∀ (A B : List En), (mergeE A B).length ≤ A.length + B.length
  | [], B => by rw [mergeE_nil]; simp
  | a :: A, [] => by rw [mergeE_right]; simp
  | a :: A, b :: B => by
    rw [mergeE_cons]
    split
    · have := merge_length A (b :: B); simp at this ⊢; omega
    · split
      · have := merge_length (a :: A) B; simp at this ⊢; omega
      · have := merge_length A B; simp at this ⊢; omega
  termination_by A B => A.length + B.length
/-- What may be there lies under the Key k. -/
def KeyAt (k : Int) (o : Option En) : Prop := ∀ e, o = some e → e.key = k
theorem look_at (L : List En) (k : Int) : KeyAt k (look L k) := fun e h => (look_some h).2
theorem pick_at {k : Int} {x y : Option En} (hx : KeyAt k x) (hy : KeyAt k y) : KeyAt k (pickE x y) := by
  intro e h
  cases x with
  | none => exact hy e h
  | some a =>
    cases y with
    | none => exact hx e h
    | some b =>
      have h' := Option.some.inj h
      cases hn : newB b a with
      | true => rw [hn, if_pos rfl] at h'; rw [← h']; exact hy b rfl
      | false => rw [hn, if_neg (by decide)] at h'; rw [← h']; exact hx a rfl
theorem pick_comm {k : Int} {x y : Option En} (hx : KeyAt k x) (hy : KeyAt k y) : pickE x y = pickE y x := by
  cases x with
  | none => rw [pick_none_right]; rfl
  | some a =>
    cases y with
    | none => rfl
    | some b =>
      show some _ = some _
      cases h1 : newB b a with
      | true => rw [new_asymm h1]; simp
      | false =>
        cases h2 : newB a b with
        | true => simp
        | false => simp [en_ext ((hx a rfl).trans (hy b rfl).symm) h2 h1]
theorem pick_self (x : Option En) : pickE x x = x := by
  cases x with
  | none => rfl
  | some a => show some _ = some _; rw [new_irrefl]; simp
/-- The Newer of two, as an order: none is Newer. -/
theorem not_new_trans {a b c : En} (hk : a.key = b.key) (h : newB a b = false) (k : newB b c = false) : newB a c = false := by
  cases hac : newB a c with
  | false => rfl
  | true =>
    cases hba : newB b a with
    | true => exact absurd (new_trans hba hac) (by rw [k]; decide)
    | false => rw [en_ext hk h hba] at hac; rw [hac] at k; cases k
theorem pick_assoc {k : Int} {x y z : Option En} (hx : KeyAt k x) (hy : KeyAt k y) (hz : KeyAt k z) : pickE (pickE x y) z = pickE x (pickE y z) := by
  cases x with
  | none => rfl
  | some a =>
    cases y with
    | none => rfl
    | some b =>
      cases z with
      | none => rfl
      | some c =>
        have ka := hx a rfl
        have kb := hy b rfl
        have kc := hz c rfl
        cases h1 : newB b a with
        | true =>
          cases h2 : newB c b with
          | true => simp [pickE, h1, h2, new_trans h2 h1]
          | false => simp [pickE, h1, h2]
        | false =>
          cases h2 : newB c b with
          | true => simp [pickE, h1, h2]
          | false => simp [pickE, h1, h2, not_new_trans (kc.trans kb.symm) h2 h1]
theorem IsJoin.comm {A B J : List En} (h : IsJoin A B J) : IsJoin B A J := ⟨h.ris, fun k => (h.at' k).trans (pick_comm (look_at A k) (look_at B k))⟩
theorem IsJoin.own {A : List En} (h : Ris A) : IsJoin A A A := ⟨h, fun k => (pick_self _).symm⟩
theorem IsJoin.again {A B J : List En} (h : IsJoin A B J) : IsJoin J A J :=
  ⟨h.ris, fun k => by rw [h.at', pick_comm (look_at A k) (look_at B k), pick_assoc (look_at B k) (look_at A k) (look_at A k), pick_self]⟩
theorem IsJoin.assoc {A B C J K L M : List En} (h1 : IsJoin A B J) (h2 : IsJoin B C K) (h3 : IsJoin J C L) (h4 : IsJoin A K M) : L = M :=
  ris_ext h3.ris h4.ris (fun k => by rw [h3.at', h1.at', h4.at', h2.at', pick_assoc (look_at A k) (look_at B k) (look_at C k)])
theorem IsJoin.mem {A B J : List En} (h : IsJoin A B J) {e : En} (he : e ∈ J) : e ∈ A ∨ e ∈ B := by
  have hl := (look_mem h.ris he).symm.trans (h.at' e.key)
  cases hA : look A e.key with
  | none => rw [hA] at hl; exact .inr (look_some (k := e.key) hl.symm).1
  | some a =>
    cases hB : look B e.key with
    | none => rw [hA, hB] at hl; exact .inl (by rw [Option.some.inj hl]; exact (look_some hA).1)
    | some b =>
      rw [hA, hB] at hl
      have h' := Option.some.inj hl
      cases hn : newB b a with
      | true => rw [hn, if_pos rfl] at h'; rw [h']; exact .inr (look_some hB).1
      | false => rw [hn, if_neg (by decide)] at h'; rw [h']; exact .inl (look_some hA).1
/-- A book: at most 80 Entries that are right, Key rising. -/
def risB : List En → Bool
  | [] => true
  | [_] => true
  | a :: b :: L => decide (a.key < b.key) && risB (b :: L)
theorem risB_iff : ∀ L : List En, risB L = true ↔ Ris L
  | [] => by simp [risB, Ris]
  | [a] => by simp [risB, Ris]
  | a :: b :: L => by
    unfold risB
    rw [Bool.and_eq_true, decide_eq_true_eq, risB_iff (b :: L), ris_cons (a := a)]
    refine ⟨fun ⟨h1, h2⟩ => ⟨fun x hx => ?_, h2⟩, fun ⟨h1, h2⟩ => ⟨h1 b (List.mem_cons_self ..), h2⟩⟩
    rcases List.mem_cons.1 hx with rfl | hx
    · exact h1
    · exact Int.lt_trans h1 ((ris_cons.1 h2).1 x hx)
def okBk (L : List En) : Bool := decide (L.length ≤ 8) && L.all okE && risB L
theorem ok_ris {L : List En} (h : okBk L = true) : Ris L := by
  unfold okBk at h
  simp only [Bool.and_eq_true] at h
  exact (risB_iff L).1 h.2
theorem ok_len {L : List En} (h : okBk L = true) : L.length ≤ 8 := by
  unfold okBk at h
  simp only [Bool.and_eq_true, decide_eq_true_eq] at h
  exact h.1.1
theorem ok_all {L : List En} (h : okBk L = true) {e : En} (he : e ∈ L) : okE e = true := by
  unfold okBk at h
  simp only [Bool.and_eq_true, List.all_eq_true] at h
  exact h.1.2 e he
theorem ok_mk {L : List En} (h1 : L.length ≤ 8) (h2 : ∀ e ∈ L, okE e = true) (h3 : Ris L) : okBk L = true := by
  unfold okBk
  simp only [Bool.and_eq_true, decide_eq_true_eq, List.all_eq_true]
  exact ⟨⟨h1, h2⟩, (risB_iff L).2 h3⟩
/-- What Joined answers. -/
def joinB (A B : List En) : List En × Bool := if okBk A = true ∧ okBk B = true ∧ (mergeE A B).length ≤ 8 then (mergeE A B, true) else ([], false)
theorem join_ok {A B : List En} (h : (joinB A B).2 = true) : okBk A = true ∧ okBk B = true ∧ okBk (joinB A B).1 = true ∧ IsJoin A B (joinB A B).1 := by
  unfold joinB at h ⊢
  by_cases hc : okBk A = true ∧ okBk B = true ∧ (mergeE A B).length ≤ 8
  · rw [if_pos hc]
    have j := merge_join A B (ok_ris hc.1) (ok_ris hc.2.1)
    exact ⟨hc.1, hc.2.1, ok_mk hc.2.2 (fun e he => by rcases merge_mem A B he with h | h; exact ok_all hc.1 h; exact ok_all hc.2.1 h) j.ris, j⟩
  · rw [if_neg hc] at h; cases h
theorem join_no {A B : List En} (h : (joinB A B).2 = false) : (joinB A B).1 = [] := by
  unfold joinB at h ⊢
  by_cases hc : okBk A = true ∧ okBk B = true ∧ (mergeE A B).length ≤ 8
  · rw [if_pos hc] at h; cases h
  · rw [if_neg hc]
theorem joinB_len (A B : List En) : (joinB A B).1.length ≤ 8 := by
  unfold joinB
  by_cases hc : okBk A = true ∧ okBk B = true ∧ (mergeE A B).length ≤ 8
  · rw [if_pos hc]; exact hc.2.2
  · rw [if_neg hc]; simp
/-- Whoever shows what two books come to has what Joined answers. -/
theorem join_of {A B J : List En} (hA : okBk A = true) (hB : okBk B = true) (h : IsJoin A B J) : joinB A B = if J.length ≤ 8 then (J, true) else ([], false) := by
  have e : mergeE A B = J := (merge_join A B (ok_ris hA) (ok_ris hB)).unique h
  unfold joinB
  rw [e]
  by_cases hl : J.length ≤ 8
  · rw [if_pos ⟨hA, hB, hl⟩, if_pos hl]
  · rw [if_neg (fun h => hl h.2.2), if_neg hl]
end Go.Proofs.Ytgbnkkjjgodilaa.Mk
