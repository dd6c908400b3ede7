/-
  Marks written into a list of Acts of the call's own, and looked for again. (Written by wip/mkrow.py.)
-/
import Derived.Test.YtbdibkcamomgpaaActL
import Derived.Test.YtbdibkcamomgpaaNameQ
namespace Go.Proofs.Ytbdibkcamomgpaa.Ac
open Go.ChangeShapes Go.WideShapes Go.ChangeAt Go.RowKit
open Go.Proofs.Ytbdibkcamomgpaa.Nm (mt)
open Go.Proofs.Ytbdibkcamomgpaa.Rc (BelowBy BelowBy.one BelowBy.cell wp_region_below calls_below calls_same)
set_option linter.unusedVariables false
set_option linter.unusedSimpArgs false
/-- The marks of m Acts from number k on. -/
def markX (k m : Nat) : List Rw := (List.range m).map fun j => (((k + 12 * j : Nat) : Int), ((k + 12 * j + 1 : Nat) : Int), ((k + 12 * j + 2 : Nat) : Int), mt (k + 12 * j + 3), mt (k + 12 * j + 4), mt (k + 12 * j + 5), decide ((k + 12 * j + 6) % 3 = 0), ((k + 12 * j + 7 : Nat) : Int), mt (k + 12 * j + 8), mt (k + 12 * j + 9), ((k + 12 * j + 10 : Nat) : Int), ((k + 12 * j + 11 : Nat) : Int))
theorem markX_length (k m : Nat) : (markX k m).length = m := by simp [markX]
theorem rat_markX (k m j : Nat) (h : j < m) : rat (markX k m) j = (((k + 12 * j : Nat) : Int), ((k + 12 * j + 1 : Nat) : Int), ((k + 12 * j + 2 : Nat) : Int), mt (k + 12 * j + 3), mt (k + 12 * j + 4), mt (k + 12 * j + 5), decide ((k + 12 * j + 6) % 3 = 0), ((k + 12 * j + 7 : Nat) : Int), mt (k + 12 * j + 8), mt (k + 12 * j + 9), ((k + 12 * j + 10 : Nat) : Int), ((k + 12 * j + 11 : Nat) : Int)) := by
  unfold markX
  rw [rat_map _ _ _ h]
theorem set_self {L : List Rw} {i : Nat} : L.set i (rat L i) = L := by
  by_cases h : i < L.length
  · apply ext_rat (by rw [List.length_set])
    intro t ht
    rw [rat_set h]
    split
    · next e => rw [e]
    · rfl
  · rw [List.set_eq_of_length_le (by omega)]
theorem Own.put0 {w : World} {base g m cap i : Nat} {L : List Rw} {y0 y1 y2 y3 y4 y5 y6 y7 y8 y9 y10 y11} (h : Own w base (.slice (some ⟨g, 0, none⟩) m cap) (L.set i (y0, y1, y2, y3, y4, y5, y6, y7, y8, y9, y10, y11))) (hi : i < L.length) (v : Int) : Own (w.setCell ⟨g, i * 12, none⟩ (.int .i64 v)) base (.slice (some ⟨g, 0, none⟩) m cap) (L.set i (v, y1, y2, y3, y4, y5, y6, y7, y8, y9, y10, y11)) := by
  have h1 := h.set (i := i) (j := 0) (v := .int .i64 v) (y := (v, y1, y2, y3, y4, y5, y6, y7, y8, y9, y10, y11)) (by rw [List.length_set]; exact hi) (by omega) (fun k hk => by
    rw [rat_set hi, if_pos rfl]
    match k, hk with
    | 0, _ => rfl
    | 1, _ => rfl
    | 2, _ => rfl
    | 3, _ => rfl
    | 4, _ => rfl
    | 5, _ => rfl
    | 6, _ => rfl
    | 7, _ => rfl
    | 8, _ => rfl
    | 9, _ => rfl
    | 10, _ => rfl
    | 11, _ => rfl)
  rw [List.set_set] at h1
  exact h1
theorem Own.put1 {w : World} {base g m cap i : Nat} {L : List Rw} {y0 y1 y2 y3 y4 y5 y6 y7 y8 y9 y10 y11} (h : Own w base (.slice (some ⟨g, 0, none⟩) m cap) (L.set i (y0, y1, y2, y3, y4, y5, y6, y7, y8, y9, y10, y11))) (hi : i < L.length) (v : Int) : Own (w.setCell ⟨g, i * 12 + 1, none⟩ (.int .i64 v)) base (.slice (some ⟨g, 0, none⟩) m cap) (L.set i (y0, v, y2, y3, y4, y5, y6, y7, y8, y9, y10, y11)) := by
  have h1 := h.set (i := i) (j := 1) (v := .int .i64 v) (y := (y0, v, y2, y3, y4, y5, y6, y7, y8, y9, y10, y11)) (by rw [List.length_set]; exact hi) (by omega) (fun k hk => by
    rw [rat_set hi, if_pos rfl]
    match k, hk with
    | 0, _ => rfl
    | 1, _ => rfl
    | 2, _ => rfl
    | 3, _ => rfl
    | 4, _ => rfl
    | 5, _ => rfl
    | 6, _ => rfl
    | 7, _ => rfl
    | 8, _ => rfl
    | 9, _ => rfl
    | 10, _ => rfl
    | 11, _ => rfl)
  rw [List.set_set] at h1
  exact h1
theorem Own.put2 {w : World} {base g m cap i : Nat} {L : List Rw} {y0 y1 y2 y3 y4 y5 y6 y7 y8 y9 y10 y11} (h : Own w base (.slice (some ⟨g, 0, none⟩) m cap) (L.set i (y0, y1, y2, y3, y4, y5, y6, y7, y8, y9, y10, y11))) (hi : i < L.length) (v : Int) : Own (w.setCell ⟨g, i * 12 + 2, none⟩ (.int .i64 v)) base (.slice (some ⟨g, 0, none⟩) m cap) (L.set i (y0, y1, v, y3, y4, y5, y6, y7, y8, y9, y10, y11)) := by
  have h1 := h.set (i := i) (j := 2) (v := .int .i64 v) (y := (y0, y1, v, y3, y4, y5, y6, y7, y8, y9, y10, y11)) (by rw [List.length_set]; exact hi) (by omega) (fun k hk => by
    rw [rat_set hi, if_pos rfl]
    match k, hk with
    | 0, _ => rfl
    | 1, _ => rfl
    | 2, _ => rfl
    | 3, _ => rfl
    | 4, _ => rfl
    | 5, _ => rfl
    | 6, _ => rfl
    | 7, _ => rfl
    | 8, _ => rfl
    | 9, _ => rfl
    | 10, _ => rfl
    | 11, _ => rfl)
  rw [List.set_set] at h1
  exact h1
theorem Own.put3 {w : World} {base g m cap i : Nat} {L : List Rw} {y0 y1 y2 y3 y4 y5 y6 y7 y8 y9 y10 y11} (h : Own w base (.slice (some ⟨g, 0, none⟩) m cap) (L.set i (y0, y1, y2, y3, y4, y5, y6, y7, y8, y9, y10, y11))) (hi : i < L.length) (v : ByteArray) : Own (w.setCell ⟨g, i * 12 + 3, none⟩ (.string v)) base (.slice (some ⟨g, 0, none⟩) m cap) (L.set i (y0, y1, y2, v, y4, y5, y6, y7, y8, y9, y10, y11)) := by
  have h1 := h.set (i := i) (j := 3) (v := .string v) (y := (y0, y1, y2, v, y4, y5, y6, y7, y8, y9, y10, y11)) (by rw [List.length_set]; exact hi) (by omega) (fun k hk => by
    rw [rat_set hi, if_pos rfl]
    match k, hk with
    | 0, _ => rfl
    | 1, _ => rfl
    | 2, _ => rfl
    | 3, _ => rfl
    | 4, _ => rfl
    | 5, _ => rfl
    | 6, _ => rfl
    | 7, _ => rfl
    | 8, _ => rfl
    | 9, _ => rfl
    | 10, _ => rfl
    | 11, _ => rfl)
  rw [List.set_set] at h1
  exact h1
theorem Own.put4 {w : World} {base g m cap i : Nat} {L : List Rw} {y0 y1 y2 y3 y4 y5 y6 y7 y8 y9 y10 y11} (h : Own w base (.slice (some ⟨g, 0, none⟩) m cap) (L.set i (y0, y1, y2, y3, y4, y5, y6, y7, y8, y9, y10, y11))) (hi : i < L.length) (v : ByteArray) : Own (w.setCell ⟨g, i * 12 + 4, none⟩ (.string v)) base (.slice (some ⟨g, 0, none⟩) m cap) (L.set i (y0, y1, y2, y3, v, y5, y6, y7, y8, y9, y10, y11)) := by
  have h1 := h.set (i := i) (j := 4) (v := .string v) (y := (y0, y1, y2, y3, v, y5, y6, y7, y8, y9, y10, y11)) (by rw [List.length_set]; exact hi) (by omega) (fun k hk => by
    rw [rat_set hi, if_pos rfl]
    match k, hk with
    | 0, _ => rfl
    | 1, _ => rfl
    | 2, _ => rfl
    | 3, _ => rfl
    | 4, _ => rfl
    | 5, _ => rfl
    | 6, _ => rfl
    | 7, _ => rfl
    | 8, _ => rfl
    | 9, _ => rfl
    | 10, _ => rfl
    | 11, _ => rfl)
  rw [List.set_set] at h1
  exact h1
theorem Own.put5 {w : World} {base g m cap i : Nat} {L : List Rw} {y0 y1 y2 y3 y4 y5 y6 y7 y8 y9 y10 y11} (h : Own w base (.slice (some ⟨g, 0, none⟩) m cap) (L.set i (y0, y1, y2, y3, y4, y5, y6, y7, y8, y9, y10, y11))) (hi : i < L.length) (v : ByteArray) : Own (w.setCell ⟨g, i * 12 + 5, none⟩ (.string v)) base (.slice (some ⟨g, 0, none⟩) m cap) (L.set i (y0, y1, y2, y3, y4, v, y6, y7, y8, y9, y10, y11)) := by
  have h1 := h.set (i := i) (j := 5) (v := .string v) (y := (y0, y1, y2, y3, y4, v, y6, y7, y8, y9, y10, y11)) (by rw [List.length_set]; exact hi) (by omega) (fun k hk => by
    rw [rat_set hi, if_pos rfl]
    match k, hk with
    | 0, _ => rfl
    | 1, _ => rfl
    | 2, _ => rfl
    | 3, _ => rfl
    | 4, _ => rfl
    | 5, _ => rfl
    | 6, _ => rfl
    | 7, _ => rfl
    | 8, _ => rfl
    | 9, _ => rfl
    | 10, _ => rfl
    | 11, _ => rfl)
  rw [List.set_set] at h1
  exact h1
theorem Own.put6 {w : World} {base g m cap i : Nat} {L : List Rw} {y0 y1 y2 y3 y4 y5 y6 y7 y8 y9 y10 y11} (h : Own w base (.slice (some ⟨g, 0, none⟩) m cap) (L.set i (y0, y1, y2, y3, y4, y5, y6, y7, y8, y9, y10, y11))) (hi : i < L.length) (v : Bool) : Own (w.setCell ⟨g, i * 12 + 6, none⟩ (.bool v)) base (.slice (some ⟨g, 0, none⟩) m cap) (L.set i (y0, y1, y2, y3, y4, y5, v, y7, y8, y9, y10, y11)) := by
  have h1 := h.set (i := i) (j := 6) (v := .bool v) (y := (y0, y1, y2, y3, y4, y5, v, y7, y8, y9, y10, y11)) (by rw [List.length_set]; exact hi) (by omega) (fun k hk => by
    rw [rat_set hi, if_pos rfl]
    match k, hk with
    | 0, _ => rfl
    | 1, _ => rfl
    | 2, _ => rfl
    | 3, _ => rfl
    | 4, _ => rfl
    | 5, _ => rfl
    | 6, _ => rfl
    | 7, _ => rfl
    | 8, _ => rfl
    | 9, _ => rfl
    | 10, _ => rfl
    | 11, _ => rfl)
  rw [List.set_set] at h1
  exact h1
theorem Own.put7 {w : World} {base g m cap i : Nat} {L : List Rw} {y0 y1 y2 y3 y4 y5 y6 y7 y8 y9 y10 y11} (h : Own w base (.slice (some ⟨g, 0, none⟩) m cap) (L.set i (y0, y1, y2, y3, y4, y5, y6, y7, y8, y9, y10, y11))) (hi : i < L.length) (v : Int) : Own (w.setCell ⟨g, i * 12 + 7, none⟩ (.int .i64 v)) base (.slice (some ⟨g, 0, none⟩) m cap) (L.set i (y0, y1, y2, y3, y4, y5, y6, v, y8, y9, y10, y11)) := by
  have h1 := h.set (i := i) (j := 7) (v := .int .i64 v) (y := (y0, y1, y2, y3, y4, y5, y6, v, y8, y9, y10, y11)) (by rw [List.length_set]; exact hi) (by omega) (fun k hk => by
    rw [rat_set hi, if_pos rfl]
    match k, hk with
    | 0, _ => rfl
    | 1, _ => rfl
    | 2, _ => rfl
    | 3, _ => rfl
    | 4, _ => rfl
    | 5, _ => rfl
    | 6, _ => rfl
    | 7, _ => rfl
    | 8, _ => rfl
    | 9, _ => rfl
    | 10, _ => rfl
    | 11, _ => rfl)
  rw [List.set_set] at h1
  exact h1
theorem Own.put8 {w : World} {base g m cap i : Nat} {L : List Rw} {y0 y1 y2 y3 y4 y5 y6 y7 y8 y9 y10 y11} (h : Own w base (.slice (some ⟨g, 0, none⟩) m cap) (L.set i (y0, y1, y2, y3, y4, y5, y6, y7, y8, y9, y10, y11))) (hi : i < L.length) (v : ByteArray) : Own (w.setCell ⟨g, i * 12 + 8, none⟩ (.string v)) base (.slice (some ⟨g, 0, none⟩) m cap) (L.set i (y0, y1, y2, y3, y4, y5, y6, y7, v, y9, y10, y11)) := by
  have h1 := h.set (i := i) (j := 8) (v := .string v) (y := (y0, y1, y2, y3, y4, y5, y6, y7, v, y9, y10, y11)) (by rw [List.length_set]; exact hi) (by omega) (fun k hk => by
    rw [rat_set hi, if_pos rfl]
    match k, hk with
    | 0, _ => rfl
    | 1, _ => rfl
    | 2, _ => rfl
    | 3, _ => rfl
    | 4, _ => rfl
    | 5, _ => rfl
    | 6, _ => rfl
    | 7, _ => rfl
    | 8, _ => rfl
    | 9, _ => rfl
    | 10, _ => rfl
    | 11, _ => rfl)
  rw [List.set_set] at h1
  exact h1
theorem Own.put9 {w : World} {base g m cap i : Nat} {L : List Rw} {y0 y1 y2 y3 y4 y5 y6 y7 y8 y9 y10 y11} (h : Own w base (.slice (some ⟨g, 0, none⟩) m cap) (L.set i (y0, y1, y2, y3, y4, y5, y6, y7, y8, y9, y10, y11))) (hi : i < L.length) (v : ByteArray) : Own (w.setCell ⟨g, i * 12 + 9, none⟩ (.string v)) base (.slice (some ⟨g, 0, none⟩) m cap) (L.set i (y0, y1, y2, y3, y4, y5, y6, y7, y8, v, y10, y11)) := by
  have h1 := h.set (i := i) (j := 9) (v := .string v) (y := (y0, y1, y2, y3, y4, y5, y6, y7, y8, v, y10, y11)) (by rw [List.length_set]; exact hi) (by omega) (fun k hk => by
    rw [rat_set hi, if_pos rfl]
    match k, hk with
    | 0, _ => rfl
    | 1, _ => rfl
    | 2, _ => rfl
    | 3, _ => rfl
    | 4, _ => rfl
    | 5, _ => rfl
    | 6, _ => rfl
    | 7, _ => rfl
    | 8, _ => rfl
    | 9, _ => rfl
    | 10, _ => rfl
    | 11, _ => rfl)
  rw [List.set_set] at h1
  exact h1
theorem Own.put10 {w : World} {base g m cap i : Nat} {L : List Rw} {y0 y1 y2 y3 y4 y5 y6 y7 y8 y9 y10 y11} (h : Own w base (.slice (some ⟨g, 0, none⟩) m cap) (L.set i (y0, y1, y2, y3, y4, y5, y6, y7, y8, y9, y10, y11))) (hi : i < L.length) (v : Int) : Own (w.setCell ⟨g, i * 12 + 10, none⟩ (.int .i64 v)) base (.slice (some ⟨g, 0, none⟩) m cap) (L.set i (y0, y1, y2, y3, y4, y5, y6, y7, y8, y9, v, y11)) := by
  have h1 := h.set (i := i) (j := 10) (v := .int .i64 v) (y := (y0, y1, y2, y3, y4, y5, y6, y7, y8, y9, v, y11)) (by rw [List.length_set]; exact hi) (by omega) (fun k hk => by
    rw [rat_set hi, if_pos rfl]
    match k, hk with
    | 0, _ => rfl
    | 1, _ => rfl
    | 2, _ => rfl
    | 3, _ => rfl
    | 4, _ => rfl
    | 5, _ => rfl
    | 6, _ => rfl
    | 7, _ => rfl
    | 8, _ => rfl
    | 9, _ => rfl
    | 10, _ => rfl
    | 11, _ => rfl)
  rw [List.set_set] at h1
  exact h1
theorem Own.put11 {w : World} {base g m cap i : Nat} {L : List Rw} {y0 y1 y2 y3 y4 y5 y6 y7 y8 y9 y10 y11} (h : Own w base (.slice (some ⟨g, 0, none⟩) m cap) (L.set i (y0, y1, y2, y3, y4, y5, y6, y7, y8, y9, y10, y11))) (hi : i < L.length) (v : Int) : Own (w.setCell ⟨g, i * 12 + 11, none⟩ (.int .i64 v)) base (.slice (some ⟨g, 0, none⟩) m cap) (L.set i (y0, y1, y2, y3, y4, y5, y6, y7, y8, y9, y10, v)) := by
  have h1 := h.set (i := i) (j := 11) (v := .int .i64 v) (y := (y0, y1, y2, y3, y4, y5, y6, y7, y8, y9, y10, v)) (by rw [List.length_set]; exact hi) (by omega) (fun k hk => by
    rw [rat_set hi, if_pos rfl]
    match k, hk with
    | 0, _ => rfl
    | 1, _ => rfl
    | 2, _ => rfl
    | 3, _ => rfl
    | 4, _ => rfl
    | 5, _ => rfl
    | 6, _ => rfl
    | 7, _ => rfl
    | 8, _ => rfl
    | 9, _ => rfl
    | 10, _ => rfl
    | 11, _ => rfl)
  rw [List.set_set] at h1
  exact h1
set_option maxRecDepth 100000 in
set_option maxHeartbeats 8000000 in
theorem markS_any (base : Nat) (v : Value) (L : List Rw) (k : Nat) (w : World) (h : Own w base v L) (h1 : 1 ≤ k) (h2 : k + 12 * L.length ≤ 1099511627776) :
    Calls Try.prog 13 #[v, .int .i64 k] w fun e w' => e = .returned (.int .i64 ((k + 12 * L.length : Nat) : Int)) ∧ Own w' base v (markX k L.length) ∧ Only (ob w v) w w' := by
  obtain ⟨a, cap, rfl, hcap, hcm, hR, hna, hsome⟩ := h.form
  cases a with
  | none =>
    have e := hR.none_nil
    subst e
    have e := hna rfl
    subst e
    clear hsome hna
    go_enter Try.func13, Try.ntmps13
    go_wp2_with (fail)
    refine wp_loop_rounds 1 ?_
    rw [rounds_succ]
    go_wp2_with (fail)
    go_ret
    exact ⟨by simp, h, Only.refl _ _⟩
  | some x =>
    obtain ⟨g, rfl, hbg, hgl⟩ := hsome x rfl
    have eo : ob w (.slice (some ⟨g, 0, none⟩) L.length cap) = g := rfl
    rw [eo]
    have HO := hidIt h
    generalize hn : L.length = m at *
    have HN := hidIt hn
    clear h hR hna hsome hn eo hcm
    go_enter Try.func13, Try.ntmps13
    go_wp2_with (fail)
    go_loopw [1, 5] (fun z y wx => ∃ (i : Nat) (M : List Rw), y = .int .i64 i ∧ z = .int .i64 ((k + 12 * i : Nat) : Int) ∧ i ≤ m ∧ M.length = m ∧ Hid (∀ j, j < i → rat M j = (((k + 12 * j : Nat) : Int), ((k + 12 * j + 1 : Nat) : Int), ((k + 12 * j + 2 : Nat) : Int), mt (k + 12 * j + 3), mt (k + 12 * j + 4), mt (k + 12 * j + 5), decide ((k + 12 * j + 6) % 3 = 0), ((k + 12 * j + 7 : Nat) : Int), mt (k + 12 * j + 8), mt (k + 12 * j + 9), ((k + 12 * j + 10 : Nat) : Int), ((k + 12 * j + 11 : Nat) : Int))) ∧ Hid (Own wx base (.slice (some ⟨g, 0, none⟩) m cap) M) ∧ Hid (Only g w wx)) (fun _ y _ => (m - intOf y).toNat)
    case atStart => exact ⟨0, L, rfl, rfl, by omega, HN.out, hidIt (fun j hj => by omega), HO, hidIt (Only.refl _ _)⟩
    case round =>
      obtain ⟨i, M, rfl, rfl, hi, hM, hE, HOx, HY⟩ := hrel
      have HM := hidIt hM
      clear hM HO
      by_cases hin : i < m
      · have hin' : (i : Int) < (m : Int) := by omega
        have HMi : Hid (i < M.length) := hidIt (by rw [HM.out]; exact hin)
        generalize hk : k + 12 * i = q
        have HK := hidIt hk
        clear hk
        have q1 : q + 12 ≤ 1099511627776 := by have := HK.out; omega
        have CM3 := hidIt (fun w => show Calls Try.prog 28 #[.int .i64 ((q : Int) + 1 + 1 + 1)] w fun e w' => e = .returned (.string (mt (q + 3))) ∧ Below w.heap.size w w' by
          rw [show (q : Int) + 1 + 1 + 1 = ((q + 3 : Nat) : Int) by omega]; exact Nm.markText_any (q + 3) w (by have := HK.out; omega) (by omega))
        have CM4 := hidIt (fun w => show Calls Try.prog 28 #[.int .i64 ((q : Int) + 1 + 1 + 1 + 1)] w fun e w' => e = .returned (.string (mt (q + 4))) ∧ Below w.heap.size w w' by
          rw [show (q : Int) + 1 + 1 + 1 + 1 = ((q + 4 : Nat) : Int) by omega]; exact Nm.markText_any (q + 4) w (by have := HK.out; omega) (by omega))
        have CM5 := hidIt (fun w => show Calls Try.prog 28 #[.int .i64 ((q : Int) + 1 + 1 + 1 + 1 + 1)] w fun e w' => e = .returned (.string (mt (q + 5))) ∧ Below w.heap.size w w' by
          rw [show (q : Int) + 1 + 1 + 1 + 1 + 1 = ((q + 5 : Nat) : Int) by omega]; exact Nm.markText_any (q + 5) w (by have := HK.out; omega) (by omega))
        have CM8 := hidIt (fun w => show Calls Try.prog 28 #[.int .i64 ((q : Int) + 1 + 1 + 1 + 1 + 1 + 1 + 1 + 1)] w fun e w' => e = .returned (.string (mt (q + 8))) ∧ Below w.heap.size w w' by
          rw [show (q : Int) + 1 + 1 + 1 + 1 + 1 + 1 + 1 + 1 = ((q + 8 : Nat) : Int) by omega]; exact Nm.markText_any (q + 8) w (by have := HK.out; omega) (by omega))
        have CM9 := hidIt (fun w => show Calls Try.prog 28 #[.int .i64 ((q : Int) + 1 + 1 + 1 + 1 + 1 + 1 + 1 + 1 + 1)] w fun e w' => e = .returned (.string (mt (q + 9))) ∧ Below w.heap.size w w' by
          rw [show (q : Int) + 1 + 1 + 1 + 1 + 1 + 1 + 1 + 1 + 1 = ((q + 9 : Nat) : Int) by omega]; exact Nm.markText_any (q + 9) w (by have := HK.out; omega) (by omega))
        obtain ⟨X6, hX6⟩ : ∃ X : Nat, X = (q + 6) % 3 := ⟨_, rfl⟩
        have et6 : ((q : Int) + 1 + 1 + 1 + 1 + 1 + 1).tmod 3 = (X6 : Int) := by rw [Int.tmod_eq_emod_of_nonneg (by omega), hX6]; omega
        have em6 : ((q : Int) + 1 + 1 + 1 + 1 + 1 + 1) % 3 = (X6 : Int) := by rw [hX6]; omega
        obtain ⟨bm6, hbm6⟩ : ∃ bm, ((X6 : Int) == 0) = bm := ⟨_, rfl⟩
        have hbw6 : decide ((q + 6) % 3 = 0) = bm6 := by rw [← hbm6, ← hX6, Bool.eq_iff_iff]; simp
        have HEY : Hid (((q : Int), (q : Int) + 1, (q : Int) + 1 + 1, mt (q + 3), mt (q + 4), mt (q + 5), bm6, (q : Int) + 1 + 1 + 1 + 1 + 1 + 1 + 1, mt (q + 8), mt (q + 9), (q : Int) + 1 + 1 + 1 + 1 + 1 + 1 + 1 + 1 + 1 + 1, (q : Int) + 1 + 1 + 1 + 1 + 1 + 1 + 1 + 1 + 1 + 1 + 1) = (((q : Nat) : Int), ((q + 1 : Nat) : Int), ((q + 2 : Nat) : Int), mt (q + 3), mt (q + 4), mt (q + 5), decide ((q + 6) % 3 = 0), ((q + 7 : Nat) : Int), mt (q + 8), mt (q + 9), ((q + 10 : Nat) : Int), ((q + 11 : Nat) : Int))) := hidIt (by rw [show (q : Int) + 1 + 1 + 1 + 1 + 1 + 1 + 1 + 1 + 1 + 1 + 1 = ((q + 11 : Nat) : Int) by omega, show (q : Int) + 1 + 1 + 1 + 1 + 1 + 1 + 1 + 1 + 1 + 1 = ((q + 10 : Nat) : Int) by omega, show (q : Int) + 1 + 1 + 1 + 1 + 1 + 1 + 1 = ((q + 7 : Nat) : Int) by omega, show (q : Int) + 1 + 1 = ((q + 2 : Nat) : Int) by omega, show (q : Int) + 1 = ((q + 1 : Nat) : Int) by omega, ← hbw6])
        generalize hmt3 : mt (q + 3) = tx3 at CM3
        have HT3 := hidIt hmt3
        clear hmt3
        generalize hmt4 : mt (q + 4) = tx4 at CM4
        have HT4 := hidIt hmt4
        clear hmt4
        generalize hmt5 : mt (q + 5) = tx5 at CM5
        have HT5 := hidIt hmt5
        clear hmt5
        generalize hmt8 : mt (q + 8) = tx8 at CM8
        have HT8 := hidIt hmt8
        clear hmt8
        generalize hmt9 : mt (q + 9) = tx9 at CM9
        have HT9 := hidIt hmt9
        clear hmt9
        have HZ6 := hidIt hX6
        have HW6 := hidIt hbw6
        clear hX6 hbw6
        have HO : Hid (Own wr base (.slice (some ⟨g, 0, none⟩) m cap) (M.set i (rat M i))) := hidIt (by rw [set_self]; exact HOx.out)
        clear HOx
        generalize rat M i = r at HO
        obtain ⟨r0, r1, r2, r3, r4, r5, r6, r7, r8, r9, r10, r11⟩ := r
        have z0 := HO.out.at (i := i) (by rw [List.length_set]; exact HMi.out) (j := 0) (by omega)
        have f0 := HO.out.free (i * 12)
        have z1 := HO.out.at (i := i) (by rw [List.length_set]; exact HMi.out) (j := 1) (by omega)
        have f1 := HO.out.free (i * 12 + 1)
        have z2 := HO.out.at (i := i) (by rw [List.length_set]; exact HMi.out) (j := 2) (by omega)
        have f2 := HO.out.free (i * 12 + 2)
        simp only [rcell, Nat.add_zero] at z0 z1 z2
        replace HO := hidIt (((HO.out.put0 HMi.out ((q : Int))).put1 HMi.out ((q : Int) + 1)).put2 HMi.out ((q : Int) + 1 + 1))
        replace HY := hidIt (((HY.out.setCell (i * 12) (.int .i64 ((q : Int)))).setCell (i * 12 + 1) (.int .i64 ((q : Int) + 1))).setCell (i * 12 + 2) (.int .i64 ((q : Int) + 1 + 1)))
        go_wp2_with (fail)
        refine (CM3.out _).mono ?_
        rintro e w4 ⟨rfl, hb⟩
        replace HO := hidIt (HO.out.kept hb)
        replace HY := hidIt (HY.out.trans (Only.of_below hb))
        clear hb
        have z3 := HO.out.at (i := i) (by rw [List.length_set]; exact HMi.out) (j := 3) (by omega)
        have f3 := HO.out.free (i * 12 + 3)
        simp only [rcell, Nat.add_zero] at z3
        replace HO := hidIt (HO.out.put3 HMi.out (tx3))
        replace HY := hidIt (HY.out.setCell (i * 12 + 3) (.string (tx3)))
        go_wp2_with (fail)
        refine (CM4.out _).mono ?_
        rintro e w5 ⟨rfl, hb⟩
        replace HO := hidIt (HO.out.kept hb)
        replace HY := hidIt (HY.out.trans (Only.of_below hb))
        clear hb
        have z4 := HO.out.at (i := i) (by rw [List.length_set]; exact HMi.out) (j := 4) (by omega)
        have f4 := HO.out.free (i * 12 + 4)
        simp only [rcell, Nat.add_zero] at z4
        replace HO := hidIt (HO.out.put4 HMi.out (tx4))
        replace HY := hidIt (HY.out.setCell (i * 12 + 4) (.string (tx4)))
        go_wp2_with (fail)
        refine (CM5.out _).mono ?_
        rintro e w6 ⟨rfl, hb⟩
        replace HO := hidIt (HO.out.kept hb)
        replace HY := hidIt (HY.out.trans (Only.of_below hb))
        clear hb
        have z5 := HO.out.at (i := i) (by rw [List.length_set]; exact HMi.out) (j := 5) (by omega)
        have f5 := HO.out.free (i * 12 + 5)
        have z6 := HO.out.at (i := i) (by rw [List.length_set]; exact HMi.out) (j := 6) (by omega)
        have f6 := HO.out.free (i * 12 + 6)
        have z7 := HO.out.at (i := i) (by rw [List.length_set]; exact HMi.out) (j := 7) (by omega)
        have f7 := HO.out.free (i * 12 + 7)
        simp only [rcell, Nat.add_zero] at z5 z6 z7
        replace HO := hidIt (((HO.out.put5 HMi.out (tx5)).put6 HMi.out (bm6)).put7 HMi.out ((q : Int) + 1 + 1 + 1 + 1 + 1 + 1 + 1))
        replace HY := hidIt (((HY.out.setCell (i * 12 + 5) (.string (tx5))).setCell (i * 12 + 6) (.bool (bm6))).setCell (i * 12 + 7) (.int .i64 ((q : Int) + 1 + 1 + 1 + 1 + 1 + 1 + 1)))
        go_wp2_with (fail)
        refine (CM8.out _).mono ?_
        rintro e w9 ⟨rfl, hb⟩
        replace HO := hidIt (HO.out.kept hb)
        replace HY := hidIt (HY.out.trans (Only.of_below hb))
        clear hb
        have z8 := HO.out.at (i := i) (by rw [List.length_set]; exact HMi.out) (j := 8) (by omega)
        have f8 := HO.out.free (i * 12 + 8)
        simp only [rcell, Nat.add_zero] at z8
        replace HO := hidIt (HO.out.put8 HMi.out (tx8))
        replace HY := hidIt (HY.out.setCell (i * 12 + 8) (.string (tx8)))
        go_wp2_with (fail)
        refine (CM9.out _).mono ?_
        rintro e w10 ⟨rfl, hb⟩
        replace HO := hidIt (HO.out.kept hb)
        replace HY := hidIt (HY.out.trans (Only.of_below hb))
        clear hb
        have z9 := HO.out.at (i := i) (by rw [List.length_set]; exact HMi.out) (j := 9) (by omega)
        have f9 := HO.out.free (i * 12 + 9)
        have z10 := HO.out.at (i := i) (by rw [List.length_set]; exact HMi.out) (j := 10) (by omega)
        have f10 := HO.out.free (i * 12 + 10)
        have z11 := HO.out.at (i := i) (by rw [List.length_set]; exact HMi.out) (j := 11) (by omega)
        have f11 := HO.out.free (i * 12 + 11)
        simp only [rcell, Nat.add_zero] at z9 z10 z11
        replace HO := hidIt (((HO.out.put9 HMi.out (tx9)).put10 HMi.out ((q : Int) + 1 + 1 + 1 + 1 + 1 + 1 + 1 + 1 + 1 + 1)).put11 HMi.out ((q : Int) + 1 + 1 + 1 + 1 + 1 + 1 + 1 + 1 + 1 + 1 + 1))
        replace HY := hidIt (((HY.out.setCell (i * 12 + 9) (.string (tx9))).setCell (i * 12 + 10) (.int .i64 ((q : Int) + 1 + 1 + 1 + 1 + 1 + 1 + 1 + 1 + 1 + 1))).setCell (i * 12 + 11) (.int .i64 ((q : Int) + 1 + 1 + 1 + 1 + 1 + 1 + 1 + 1 + 1 + 1 + 1)))
        go_wp2_with (fail)
        refine ⟨⟨i + 1, _, by simp, ?_, by omega, by rw [List.length_set]; exact HM.out, hidIt (fun j hj => ?_), HO, HY⟩, by simp [intOf]; omega⟩
        · have := HK.out
          congr 1
          omega
        · rw [rat_set HMi.out]
          split
          · next e =>
            subst e
            rw [HK.out, ← HEY.out, HT3.out, HT4.out, HT5.out, HT8.out, HT9.out]
          · exact hE.out j (by omega)
      · have hin' : ¬ (i : Int) < (m : Int) := by omega
        have HI : Hid (i = m) := hidIt (by omega)
        have e : M = markX k m := ext_rat (by rw [HM.out, markX_length]) (fun j hj => by rw [HM.out] at hj; rw [hE.out j (by have := HI.out; omega), rat_markX _ _ _ hj])
        subst e
        have ei : i = m := HI.out
        subst ei
        generalize hk : k + 12 * i = q
        go_wp2_with (fail)
        go_ret
        exact ⟨rfl, HOx.out, HY.out⟩
set_option maxRecDepth 100000 in
set_option maxHeartbeats 8000000 in
theorem heldS_any (a : Option Addr) (cap m k : Nat) (w : World) (h : Rd w a (markX k m)) (h1 : 1 ≤ k) (h2 : k + 12 * m ≤ 1099511627776) :
    Calls Try.prog 15 #[.slice a m cap, .int .i64 k] w fun e w' => e = .returned (.int .i64 ((k + 12 * m : Nat) : Int)) ∧ Below w.heap.size w w' := by
  have HR := hidIt h
  clear h
  go_enter Try.func15, Try.ntmps15
  go_wp2_with (fail)
  go_loopw [1, 5] (fun z y wx => ∃ i : Nat, y = .int .i64 i ∧ z = .int .i64 ((k + 12 * i : Nat) : Int) ∧ i ≤ m ∧ Hid (Below w.heap.size w wx)) (fun _ y _ => (m - intOf y).toNat)
  case atStart => exact ⟨0, rfl, rfl, by omega, hidIt (Below.refl _ _)⟩
  case round =>
    obtain ⟨i, rfl, rfl, hi, HB⟩ := hrel
    by_cases hin : i < m
    · have hin' : (i : Int) < (m : Int) := by omega
      obtain ⟨b, off, rfl, c0, c1, c2, c3, c4, c5, c6, c7, c8, c9, c10, c11⟩ := (HR.out.kept HB.out).all (i := i) (by rw [markX_length]; exact hin)
      rw [rat_markX _ _ _ hin] at c0 c1 c2 c3 c4 c5 c6 c7 c8 c9 c10 c11
      simp only at c0 c1 c2 c3 c4 c5 c6 c7 c8 c9 c10 c11
      have q3 : Hid (k + 12 * (i + 1) = k + 12 * i + 12) := hidIt (by omega)
      have q1 : k + 12 * i + 12 ≤ 1099511627776 := by omega
      have HK : Hid (1 ≤ k + 12 * i) := hidIt (by omega)
      generalize k + 12 * i = q at c0 c1 c2 c3 c4 c5 c6 c7 c8 c9 c10 c11 q1 q3 HK
      have CM3 := hidIt (fun w => show Calls Try.prog 28 #[.int .i64 ((q : Int) + 1 + 1 + 1)] w fun e w' => e = .returned (.string (mt (q + 3))) ∧ Below w.heap.size w w' by
        rw [show (q : Int) + 1 + 1 + 1 = ((q + 3 : Nat) : Int) by omega]; exact Nm.markText_any (q + 3) w (by have := HK.out; omega) (by omega))
      have CM4 := hidIt (fun w => show Calls Try.prog 28 #[.int .i64 ((q : Int) + 1 + 1 + 1 + 1)] w fun e w' => e = .returned (.string (mt (q + 4))) ∧ Below w.heap.size w w' by
        rw [show (q : Int) + 1 + 1 + 1 + 1 = ((q + 4 : Nat) : Int) by omega]; exact Nm.markText_any (q + 4) w (by have := HK.out; omega) (by omega))
      have CM5 := hidIt (fun w => show Calls Try.prog 28 #[.int .i64 ((q : Int) + 1 + 1 + 1 + 1 + 1)] w fun e w' => e = .returned (.string (mt (q + 5))) ∧ Below w.heap.size w w' by
        rw [show (q : Int) + 1 + 1 + 1 + 1 + 1 = ((q + 5 : Nat) : Int) by omega]; exact Nm.markText_any (q + 5) w (by have := HK.out; omega) (by omega))
      have CM8 := hidIt (fun w => show Calls Try.prog 28 #[.int .i64 ((q : Int) + 1 + 1 + 1 + 1 + 1 + 1 + 1 + 1)] w fun e w' => e = .returned (.string (mt (q + 8))) ∧ Below w.heap.size w w' by
        rw [show (q : Int) + 1 + 1 + 1 + 1 + 1 + 1 + 1 + 1 = ((q + 8 : Nat) : Int) by omega]; exact Nm.markText_any (q + 8) w (by have := HK.out; omega) (by omega))
      have CM9 := hidIt (fun w => show Calls Try.prog 28 #[.int .i64 ((q : Int) + 1 + 1 + 1 + 1 + 1 + 1 + 1 + 1 + 1)] w fun e w' => e = .returned (.string (mt (q + 9))) ∧ Below w.heap.size w w' by
        rw [show (q : Int) + 1 + 1 + 1 + 1 + 1 + 1 + 1 + 1 + 1 = ((q + 9 : Nat) : Int) by omega]; exact Nm.markText_any (q + 9) w (by have := HK.out; omega) (by omega))
      obtain ⟨X6, hX6⟩ : ∃ X : Nat, X = (q + 6) % 3 := ⟨_, rfl⟩
      have et6 : ((q : Int) + 1 + 1 + 1 + 1 + 1 + 1).tmod 3 = (X6 : Int) := by rw [Int.tmod_eq_emod_of_nonneg (by omega), hX6]; omega
      have em6 : ((q : Int) + 1 + 1 + 1 + 1 + 1 + 1) % 3 = (X6 : Int) := by rw [hX6]; omega
      obtain ⟨bm6, hbm6⟩ : ∃ bm, ((X6 : Int) == 0) = bm := ⟨_, rfl⟩
      have hbw6 : decide ((q + 6) % 3 = 0) = bm6 := by rw [← hbm6, ← hX6, Bool.eq_iff_iff]; simp
      rw [show ((q + 1 : Nat) : Int) = (q : Int) + 1 by omega] at c1
      rw [show ((q + 2 : Nat) : Int) = (q : Int) + 1 + 1 by omega] at c2
      rw [show ((q + 7 : Nat) : Int) = (q : Int) + 1 + 1 + 1 + 1 + 1 + 1 + 1 by omega] at c7
      rw [show ((q + 10 : Nat) : Int) = (q : Int) + 1 + 1 + 1 + 1 + 1 + 1 + 1 + 1 + 1 + 1 by omega] at c10
      rw [show ((q + 11 : Nat) : Int) = (q : Int) + 1 + 1 + 1 + 1 + 1 + 1 + 1 + 1 + 1 + 1 + 1 by omega] at c11
      rw [hbw6] at c6
      generalize mt (q + 3) = tx3 at CM3 c3
      generalize mt (q + 4) = tx4 at CM4 c4
      generalize mt (q + 5) = tx5 at CM5 c5
      generalize mt (q + 8) = tx8 at CM8 c8
      generalize mt (q + 9) = tx9 at CM9 c9
      have hne0 : ((q : Int) != (q : Int)) = false := by simp
      have hne1 : ((q : Int) + 1 != (q : Int) + 1) = false := by simp
      have hne2 : ((q : Int) + 1 + 1 != (q : Int) + 1 + 1) = false := by simp
      have hne7 : ((q : Int) + 1 + 1 + 1 + 1 + 1 + 1 + 1 != (q : Int) + 1 + 1 + 1 + 1 + 1 + 1 + 1) = false := by simp
      have hne10 : ((q : Int) + 1 + 1 + 1 + 1 + 1 + 1 + 1 + 1 + 1 + 1 != (q : Int) + 1 + 1 + 1 + 1 + 1 + 1 + 1 + 1 + 1 + 1) = false := by simp
      have hne11 : ((q : Int) + 1 + 1 + 1 + 1 + 1 + 1 + 1 + 1 + 1 + 1 + 1 != (q : Int) + 1 + 1 + 1 + 1 + 1 + 1 + 1 + 1 + 1 + 1 + 1) = false := by simp
      have hne6 : (bm6 == bm6) = true := by cases bm6 <;> rfl
      clear hX6 hbw6
      clear HR
      go_wp2_with (fail)
      haveI := BelowBy.one wr
      have g3 := fun p : BelowBy wr => p.cell c3
      refine wp_region_below (by kernel_rfl) (by kernel_rfl) ?_
      repeat (go_big_quiet_step (first | (go_at_call 28; refine calls_below (CM3.out _))))
      refine wpQuiet_nil ?_
      intro _ hw'
      obtain ⟨pq, rfl⟩ := hw'
      have k3 := pq.h
      generalize pq.world = w4 at k3 ⊢
      have HB4 := hidIt (HB.out.trans (k3.mono HB.out.size))
      replace c4 : w4.cell? _ = _ := (k3.cell (by simpa using cell_block c4)).trans c4
      replace c5 : w4.cell? _ = _ := (k3.cell (by simpa using cell_block c5)).trans c5
      replace c6 : w4.cell? _ = _ := (k3.cell (by simpa using cell_block c6)).trans c6
      replace c7 : w4.cell? _ = _ := (k3.cell (by simpa using cell_block c7)).trans c7
      replace c8 : w4.cell? _ = _ := (k3.cell (by simpa using cell_block c8)).trans c8
      replace c9 : w4.cell? _ = _ := (k3.cell (by simpa using cell_block c9)).trans c9
      replace c10 : w4.cell? _ = _ := (k3.cell (by simpa using cell_block c10)).trans c10
      replace c11 : w4.cell? _ = _ := (k3.cell (by simpa using cell_block c11)).trans c11
      clear k3 g3 c3
      go_wp2_with (fail)
      haveI := BelowBy.one w4
      have g4 := fun p : BelowBy w4 => p.cell c4
      refine wp_region_below (by kernel_rfl) (by kernel_rfl) ?_
      repeat (go_big_quiet_step (first | (go_at_call 28; refine calls_below (CM4.out _))))
      refine wpQuiet_nil ?_
      intro _ hw'
      obtain ⟨pq, rfl⟩ := hw'
      have k4 := pq.h
      generalize pq.world = w5 at k4 ⊢
      have HB5 := hidIt (HB4.out.trans (k4.mono HB4.out.size))
      replace c5 : w5.cell? _ = _ := (k4.cell (by simpa using cell_block c5)).trans c5
      replace c6 : w5.cell? _ = _ := (k4.cell (by simpa using cell_block c6)).trans c6
      replace c7 : w5.cell? _ = _ := (k4.cell (by simpa using cell_block c7)).trans c7
      replace c8 : w5.cell? _ = _ := (k4.cell (by simpa using cell_block c8)).trans c8
      replace c9 : w5.cell? _ = _ := (k4.cell (by simpa using cell_block c9)).trans c9
      replace c10 : w5.cell? _ = _ := (k4.cell (by simpa using cell_block c10)).trans c10
      replace c11 : w5.cell? _ = _ := (k4.cell (by simpa using cell_block c11)).trans c11
      clear k4 g4 c4
      go_wp2_with (fail)
      haveI := BelowBy.one w5
      have g5 := fun p : BelowBy w5 => p.cell c5
      refine wp_region_below (by kernel_rfl) (by kernel_rfl) ?_
      repeat (go_big_quiet_step (first | (go_at_call 28; refine calls_below (CM5.out _))))
      refine wpQuiet_nil ?_
      intro _ hw'
      obtain ⟨pq, rfl⟩ := hw'
      have k5 := pq.h
      generalize pq.world = w6 at k5 ⊢
      have HB6 := hidIt (HB5.out.trans (k5.mono HB5.out.size))
      replace c6 : w6.cell? _ = _ := (k5.cell (by simpa using cell_block c6)).trans c6
      replace c7 : w6.cell? _ = _ := (k5.cell (by simpa using cell_block c7)).trans c7
      replace c8 : w6.cell? _ = _ := (k5.cell (by simpa using cell_block c8)).trans c8
      replace c9 : w6.cell? _ = _ := (k5.cell (by simpa using cell_block c9)).trans c9
      replace c10 : w6.cell? _ = _ := (k5.cell (by simpa using cell_block c10)).trans c10
      replace c11 : w6.cell? _ = _ := (k5.cell (by simpa using cell_block c11)).trans c11
      clear k5 g5 c5
      go_wp2_with (fail)
      haveI := BelowBy.one w6
      have g8 := fun p : BelowBy w6 => p.cell c8
      refine wp_region_below (by kernel_rfl) (by kernel_rfl) ?_
      repeat (go_big_quiet_step (first | (go_at_call 28; refine calls_below (CM8.out _))))
      refine wpQuiet_nil ?_
      intro _ hw'
      obtain ⟨pq, rfl⟩ := hw'
      have k8 := pq.h
      generalize pq.world = w9 at k8 ⊢
      have HB9 := hidIt (HB6.out.trans (k8.mono HB6.out.size))
      replace c9 : w9.cell? _ = _ := (k8.cell (by simpa using cell_block c9)).trans c9
      replace c10 : w9.cell? _ = _ := (k8.cell (by simpa using cell_block c10)).trans c10
      replace c11 : w9.cell? _ = _ := (k8.cell (by simpa using cell_block c11)).trans c11
      clear k8 g8 c8
      go_wp2_with (fail)
      haveI := BelowBy.one w9
      have g9 := fun p : BelowBy w9 => p.cell c9
      refine wp_region_below (by kernel_rfl) (by kernel_rfl) ?_
      repeat (go_big_quiet_step (first | (go_at_call 28; refine calls_below (CM9.out _))))
      refine wpQuiet_nil ?_
      intro _ hw'
      obtain ⟨pq, rfl⟩ := hw'
      have k9 := pq.h
      generalize pq.world = w10 at k9 ⊢
      have HB10 := hidIt (HB9.out.trans (k9.mono HB9.out.size))
      replace c10 : w10.cell? _ = _ := (k9.cell (by simpa using cell_block c10)).trans c10
      replace c11 : w10.cell? _ = _ := (k9.cell (by simpa using cell_block c11)).trans c11
      clear k9 g9 c9
      go_wp2_with (fail)
      refine ⟨⟨i + 1, by simp, ?_, by omega, HB10⟩, by simp [intOf]; omega⟩
      rw [q3.out]
      congr 1
    · have hin' : ¬ (i : Int) < (m : Int) := by omega
      have ei : i = m := by omega
      subst ei
      generalize hk : k + 12 * i = q
      go_wp2_with (fail)
      go_ret
      exact ⟨rfl, HB.out⟩
end Go.Proofs.Ytbdibkcamomgpaa.Ac
