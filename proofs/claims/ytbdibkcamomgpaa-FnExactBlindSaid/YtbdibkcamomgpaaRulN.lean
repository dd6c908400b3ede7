/-
  Marks written into a list of Rules of the call's own, and looked for again. (Written by wip/mkrow.py.)
-/
import Derived.Test.YtbdibkcamomgpaaRulL
import Derived.Test.YtbdibkcamomgpaaNameQ
namespace Go.Proofs.Ytbdibkcamomgpaa.Ru
open Go.ChangeShapes Go.WideShapes Go.ChangeAt Go.RowKit
open Go.Proofs.Ytbdibkcamomgpaa.Nm (mt)
open Go.Proofs.Ytbdibkcamomgpaa.Rc (BelowBy BelowBy.one BelowBy.cell wp_region_below calls_below calls_same)
set_option linter.unusedVariables false
set_option linter.unusedSimpArgs false
/-- The marks of m Rules from number k on. -/
def markX (k m : Nat) : List Rw := (List.range m).map fun j => (mt (k + 3 * j), decide ((k + 3 * j + 1) % 3 = 0), decide ((k + 3 * j + 2) % 3 = 0))
theorem markX_length (k m : Nat) : (markX k m).length = m := by simp [markX]
theorem rat_markX (k m j : Nat) (h : j < m) : rat (markX k m) j = (mt (k + 3 * j), decide ((k + 3 * j + 1) % 3 = 0), decide ((k + 3 * j + 2) % 3 = 0)) := by
  unfold markX
  rw [rat_map _ _ _ h]
theorem set_self {L : List Rw} {i : Nat} : L.set i (rat L i) = L := by
  by_cases h : i < L.length
  · apply ext_rat (by rw [List.length_set])
    intro t ht
    rw [rat_set h]
    split
    · next e => rw [e]
    · rfl
  · rw [List.set_eq_of_length_le (by omega)]
theorem Own.put0 {w : World} {base g m cap i : Nat} {L : List Rw} {y0 y1 y2} (h : Own w base (.slice (some ⟨g, 0, none⟩) m cap) (L.set i (y0, y1, y2))) (hi : i < L.length) (v : ByteArray) : Own (w.setCell ⟨g, i * 3, none⟩ (.string v)) base (.slice (some ⟨g, 0, none⟩) m cap) (L.set i (v, y1, y2)) := by
  have h1 := h.set (i := i) (j := 0) (v := .string v) (y := (v, y1, y2)) (by rw [List.length_set]; exact hi) (by omega) (fun k hk => by
    rw [rat_set hi, if_pos rfl]
    match k, hk with
    | 0, _ => rfl
    | 1, _ => rfl
    | 2, _ => rfl)
  rw [List.set_set] at h1
  exact h1
theorem Own.put1 {w : World} {base g m cap i : Nat} {L : List Rw} {y0 y1 y2} (h : Own w base (.slice (some ⟨g, 0, none⟩) m cap) (L.set i (y0, y1, y2))) (hi : i < L.length) (v : Bool) : Own (w.setCell ⟨g, i * 3 + 1, none⟩ (.bool v)) base (.slice (some ⟨g, 0, none⟩) m cap) (L.set i (y0, v, y2)) := by
  have h1 := h.set (i := i) (j := 1) (v := .bool v) (y := (y0, v, y2)) (by rw [List.length_set]; exact hi) (by omega) (fun k hk => by
    rw [rat_set hi, if_pos rfl]
    match k, hk with
    | 0, _ => rfl
    | 1, _ => rfl
    | 2, _ => rfl)
  rw [List.set_set] at h1
  exact h1
theorem Own.put2 {w : World} {base g m cap i : Nat} {L : List Rw} {y0 y1 y2} (h : Own w base (.slice (some ⟨g, 0, none⟩) m cap) (L.set i (y0, y1, y2))) (hi : i < L.length) (v : Bool) : Own (w.setCell ⟨g, i * 3 + 2, none⟩ (.bool v)) base (.slice (some ⟨g, 0, none⟩) m cap) (L.set i (y0, y1, v)) := by
  have h1 := h.set (i := i) (j := 2) (v := .bool v) (y := (y0, y1, v)) (by rw [List.length_set]; exact hi) (by omega) (fun k hk => by
    rw [rat_set hi, if_pos rfl]
    match k, hk with
    | 0, _ => rfl
    | 1, _ => rfl
    | 2, _ => rfl)
  rw [List.set_set] at h1
  exact h1
set_option maxRecDepth 100000 in
set_option maxHeartbeats 8000000 in
theorem markS_any (base : Nat) (v : Value) (L : List Rw) (k : Nat) (w : World) (h : Own w base v L) (h1 : 1 ≤ k) (h2 : k + 3 * L.length ≤ 1099511627776) :
    Calls Try.prog 14 #[v, .int .i64 k] w fun e w' => e = .returned (.int .i64 ((k + 3 * L.length : Nat) : Int)) ∧ Own w' base v (markX k L.length) ∧ Only (ob w v) w w' := by
  obtain ⟨a, cap, rfl, hcap, hcm, hR, hna, hsome⟩ := h.form
  cases a with
  | none =>
    have e := hR.none_nil
    subst e
    have e := hna rfl
    subst e
    clear hsome hna
    go_enter Try.func14, Try.ntmps14
    go_wp2_with (fail)
    refine wp_loop_rounds 1 ?_
    rw [rounds_succ]
    go_wp2_with (fail)
    go_ret
    exact ⟨by simp, h, Only.refl _ _⟩
  | some x =>
    obtain ⟨g, rfl, hbg, hgl⟩ := hsome x rfl
    have eo : ob w (.slice (some ⟨g, 0, none⟩) L.length cap) = g := rfl
    rw [eo]
    have HO := hidIt h
    generalize hn : L.length = m at *
    have HN := hidIt hn
    clear h hR hna hsome hn eo hcm
    go_enter Try.func14, Try.ntmps14
    go_wp2_with (fail)
    go_loopw [1, 5] (fun z y wx => ∃ (i : Nat) (M : List Rw), y = .int .i64 i ∧ z = .int .i64 ((k + 3 * i : Nat) : Int) ∧ i ≤ m ∧ M.length = m ∧ Hid (∀ j, j < i → rat M j = (mt (k + 3 * j), decide ((k + 3 * j + 1) % 3 = 0), decide ((k + 3 * j + 2) % 3 = 0))) ∧ Hid (Own wx base (.slice (some ⟨g, 0, none⟩) m cap) M) ∧ Hid (Only g w wx)) (fun _ y _ => (m - intOf y).toNat)
    case atStart => exact ⟨0, L, rfl, rfl, by omega, HN.out, hidIt (fun j hj => by omega), HO, hidIt (Only.refl _ _)⟩
    case round =>
      obtain ⟨i, M, rfl, rfl, hi, hM, hE, HOx, HY⟩ := hrel
      have HM := hidIt hM
      clear hM HO
      by_cases hin : i < m
      · have hin' : (i : Int) < (m : Int) := by omega
        have HMi : Hid (i < M.length) := hidIt (by rw [HM.out]; exact hin)
        generalize hk : k + 3 * i = q
        have HK := hidIt hk
        clear hk
        have q1 : q + 3 ≤ 1099511627776 := by have := HK.out; omega
        have CM0 := hidIt (fun w => Nm.markText_any q w (by have := HK.out; omega) (by omega))
        obtain ⟨X1, hX1⟩ : ∃ X : Nat, X = (q + 1) % 3 := ⟨_, rfl⟩
        have et1 : ((q : Int) + 1).tmod 3 = (X1 : Int) := by rw [Int.tmod_eq_emod_of_nonneg (by omega), hX1]; omega
        have em1 : ((q : Int) + 1) % 3 = (X1 : Int) := by rw [hX1]; omega
        obtain ⟨bm1, hbm1⟩ : ∃ bm, ((X1 : Int) == 0) = bm := ⟨_, rfl⟩
        have hbw1 : decide ((q + 1) % 3 = 0) = bm1 := by rw [← hbm1, ← hX1, Bool.eq_iff_iff]; simp
        obtain ⟨X2, hX2⟩ : ∃ X : Nat, X = (q + 2) % 3 := ⟨_, rfl⟩
        have et2 : ((q : Int) + 1 + 1).tmod 3 = (X2 : Int) := by rw [Int.tmod_eq_emod_of_nonneg (by omega), hX2]; omega
        have em2 : ((q : Int) + 1 + 1) % 3 = (X2 : Int) := by rw [hX2]; omega
        obtain ⟨bm2, hbm2⟩ : ∃ bm, ((X2 : Int) == 0) = bm := ⟨_, rfl⟩
        have hbw2 : decide ((q + 2) % 3 = 0) = bm2 := by rw [← hbm2, ← hX2, Bool.eq_iff_iff]; simp
        have HEY : Hid ((mt q, bm1, bm2) = (mt (q), decide ((q + 1) % 3 = 0), decide ((q + 2) % 3 = 0))) := hidIt (by rw [← hbw1, ← hbw2])
        generalize hmt0 : mt q = tx0 at CM0
        have HT0 := hidIt hmt0
        clear hmt0
        have HZ1 := hidIt hX1
        have HW1 := hidIt hbw1
        clear hX1 hbw1
        have HZ2 := hidIt hX2
        have HW2 := hidIt hbw2
        clear hX2 hbw2
        have HO : Hid (Own wr base (.slice (some ⟨g, 0, none⟩) m cap) (M.set i (rat M i))) := hidIt (by rw [set_self]; exact HOx.out)
        clear HOx
        generalize rat M i = r at HO
        obtain ⟨r0, r1, r2⟩ := r
        go_wp2_with (fail)
        refine (CM0.out _).mono ?_
        rintro e w1 ⟨rfl, hb⟩
        replace HO := hidIt (HO.out.kept hb)
        replace HY := hidIt (HY.out.trans (Only.of_below hb))
        clear hb
        have z0 := HO.out.at (i := i) (by rw [List.length_set]; exact HMi.out) (j := 0) (by omega)
        have f0 := HO.out.free (i * 3)
        have z1 := HO.out.at (i := i) (by rw [List.length_set]; exact HMi.out) (j := 1) (by omega)
        have f1 := HO.out.free (i * 3 + 1)
        have z2 := HO.out.at (i := i) (by rw [List.length_set]; exact HMi.out) (j := 2) (by omega)
        have f2 := HO.out.free (i * 3 + 2)
        simp only [rcell, Nat.add_zero] at z0 z1 z2
        replace HO := hidIt (((HO.out.put0 HMi.out (tx0)).put1 HMi.out (bm1)).put2 HMi.out (bm2))
        replace HY := hidIt (((HY.out.setCell (i * 3) (.string (tx0))).setCell (i * 3 + 1) (.bool (bm1))).setCell (i * 3 + 2) (.bool (bm2)))
        go_wp2_with (fail)
        refine ⟨⟨i + 1, _, by simp, ?_, by omega, by rw [List.length_set]; exact HM.out, hidIt (fun j hj => ?_), HO, HY⟩, by simp [intOf]; omega⟩
        · have := HK.out
          congr 1
          omega
        · rw [rat_set HMi.out]
          split
          · next e =>
            subst e
            rw [HK.out, ← HEY.out, HT0.out]
          · exact hE.out j (by omega)
      · have hin' : ¬ (i : Int) < (m : Int) := by omega
        have HI : Hid (i = m) := hidIt (by omega)
        have e : M = markX k m := ext_rat (by rw [HM.out, markX_length]) (fun j hj => by rw [HM.out] at hj; rw [hE.out j (by have := HI.out; omega), rat_markX _ _ _ hj])
        subst e
        have ei : i = m := HI.out
        subst ei
        generalize hk : k + 3 * i = q
        go_wp2_with (fail)
        go_ret
        exact ⟨rfl, HOx.out, HY.out⟩
end Go.Proofs.Ytbdibkcamomgpaa.Ru
