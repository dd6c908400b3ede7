/-
  The laws' own helpers on lists of texts: eqStringS, markText, markStringS, heldStringS.
-/
import Derived.Test.YtmhfaeddfibohabNameR
import Derived.Test.YtmhfaeddfibohabNameJ
import Derived.Deep.RegionHeld3
import Derived.Deep.QuietTactic
import Derived.BigQuiet
import Derived.Laws.BytesArg
import Derived.Laws.IdiomStrings
import Derived.WalkLawsBesides
namespace Go.Proofs.Ytmhfaeddfibohab.Nm
open Go.ChangeShapes Go.WideShapes Go.ChangeAt Go.RowKit
set_option linter.unusedVariables false
/-- The digits of a number ahead of some bytes. -/
def digs : Nat → Nat → Bytes → Bytes
  | 0, _, l => l
  | f + 1, k, l => if k = 0 then l else digs f (k / 10) (UInt8.ofNat (48 + k % 10) :: l)
theorem digs_zero (f : Nat) (l : Bytes) : digs f 0 l = l := by cases f <;> rfl
theorem digs_step {f k : Nat} (hk : 0 < k) (hf : k ≤ f) (l : Bytes) : ∃ g, k / 10 ≤ g ∧ digs f k l = digs g (k / 10) (UInt8.ofNat (48 + k % 10) :: l) := by
  cases f with
  | zero => omega
  | succ g => exact ⟨g, by omega, by show (if k = 0 then l else _) = _; rw [if_neg (by omega)]⟩
/-- The mark of a number: m and its digits. -/
def mt (k : Nat) : ByteArray := ⟨#[109]⟩ ++ B (digs k k [])
theorem cv1 (x : Nat) (hx : x < 256) (wr : World) : (convert 52 9 (.slice (some ⟨wr.heap.size, 0, none⟩) 1 1)).run Try.prog (wr.alloc (.cells #[.int .u8 x] 5)) = .ok (.string ⟨#[UInt8.ofNat x]⟩) (wr.alloc (.cells #[.int .u8 x] 5)) := by
  refine run_convert_bytes_back _ _ _ 5 ⟨wr.heap.size, 0, none⟩ 1 [UInt8.ofNat x] Try.underlying52 Try.underlying5 Try.underlying9 (fun j hj => ?_)
  have hj0 : j = 0 := by simp at hj; omega
  subst hj0
  have e : (UInt8.ofNat x).toNat = x := by simp; omega
  simp [Addr.add, Nat.mod_eq_of_lt hx]
set_option maxRecDepth 100000 in
set_option maxHeartbeats 4000000 in
theorem markText_any (n : Nat) (w : World) (h1 : 1 ≤ n) (hn : n ≤ 1099511627776) :
    Calls Try.prog 25 #[.int .i64 n] w fun e w' => e = .returned (.string (mt n)) ∧ Below w.heap.size w w' := by
  have h0 : ¬ (n : Int) ≤ 0 := by omega
  have em : Hid (mt n = ⟨#[109]⟩ ++ B (digs n n [])) := rfl
  generalize mt n = res at em ⊢
  go_enter Try.func25, Try.ntmps25
  go_wp2_with (fail)
  go_loopw [0, 3] (fun y z wx => ∃ (m : Nat) (s : ByteArray), y = .int .i64 m ∧ z = .string s ∧ m ≤ 1099511627776 ∧ s.size + m ≤ n + 1 ∧ Hid (∃ f, m ≤ f ∧ digs n n [] = digs f m (bs s)) ∧ Below w.heap.size w wx) (fun y _ _ => (intOf y).toNat)
  case atStart => exact ⟨n, _, rfl, rfl, hn, by simp [ByteArray.size], hidIt ⟨n, Nat.le_refl _, rfl⟩, Below.refl _ _⟩
  case round =>
    obtain ⟨m, s, rfl, rfl, hm, hsm, HL, hB⟩ := hrel
    have HB := hidIt hB
    clear hB
    by_cases hg : 0 < m
    · have l0 : (0 : Int) < m := by omega
      have l2 : (m : Int) ≤ 1099511627776 := by omega
      have l3 : ¬ (m : Int) % 10 < 0 := by omega
      have hq1 : (⟨#[48 + UInt8.ofNat (m % 10)]⟩ : ByteArray).size = 1 := rfl
      have hq2 : ¬ 9223372036854775807 < 1 + s.size := by omega
      have hq3 : Hid (1 + s.size + m / 10 ≤ n + 1) := hidIt (by omega)
      have hcv := cv1 (48 + m % 10) (by omega) wr
      have ec : ((48 + m % 10 : Nat) : Int) = 48 + (m : Int) % 10 := by omega
      rw [ec] at hcv
      clear ec
      have hstep : Hid (∃ f, m / 10 ≤ f ∧ digs n n [] = digs f (m / 10) (UInt8.ofNat (48 + m % 10) :: bs s)) := hidIt (by
        obtain ⟨f, hf, e⟩ := HL.out
        obtain ⟨g, hg', e'⟩ := digs_step hg hf (bs s)
        exact ⟨g, hg', e.trans e'⟩)
      have hg' := hidIt hg
      clear hg
      go_wp2_with (fail)
      refine ⟨⟨m / 10, _, by simp, rfl, by omega, by rw [ByteArray.size_append, hq1]; exact hq3.out, hidIt ?_, HB.out.alloc (HB.out.size) _⟩, ?_⟩
      · have := hstep.out
        simpa using this
      · have := hg'.out
        simp [intOf]; omega
    · have l0 : ¬ (0 : Int) < m := by omega
      have hz : m = 0 := by omega
      subst hz
      have HS : Hid (res = ⟨#[109]⟩ ++ s) := hidIt (by
        obtain ⟨f, _, e⟩ := HL.out
        rw [digs_zero] at e
        rw [em.out, e, B_bs])
      have hq1 : (⟨#[109]⟩ : ByteArray).size = 1 := rfl
      have hq2 : ¬ 9223372036854775807 < 1 + s.size := by omega
      go_wp2_with (fail)
      go_ret
      exact ⟨by rw [HS.out]; rfl, HB.out⟩
/-- The marks of n texts from number k on. -/
def markL (k n : Nat) : List ByteArray := (List.range n).map fun j => mt (k + j)
theorem markL_length (k n : Nat) : (markL k n).length = n := by simp [markL]
theorem sat_markL (k n j : Nat) (h : j < n) : sat (markL k n) j = mt (k + j) := by
  rw [sat_at (by rw [markL_length]; exact h)]
  simp [markL]
theorem ext_sat {L M : List ByteArray} (hl : L.length = M.length) (h : ∀ i, i < L.length → sat L i = sat M i) : L = M := by
  apply List.ext_getElem hl
  intro i h1 h2
  have := h i h1
  rwa [sat_at h1, sat_at h2] at this
theorem sat_set {L : List ByteArray} {i j : Nat} {x : ByteArray} (h : i < L.length) : sat (L.set i x) j = if i = j then x else sat L j := by
  unfold sat
  rw [List.getD_eq_getElem?_getD, List.getD_eq_getElem?_getD, List.getElem?_set]
  by_cases e : i = j
  · subst e; simp [h]
  · simp [e]
theorem Rd.none_nil {w : World} {L : List ByteArray} (h : Rd w none L) : L = [] := by
  cases L with
  | nil => rfl
  | cons x r =>
    obtain ⟨b, o, e, _⟩ := h.cell 0 (by simp)
    cases e
/-- The block that a slice owns; of none, one that is not there. -/
def ob (w : World) (v : Value) : Nat := v.ownBlock.getD w.heap.size
set_option maxRecDepth 100000 in
set_option maxHeartbeats 4000000 in
theorem markStringS_any (base : Nat) (v : Value) (L : List ByteArray) (k : Nat) (w : World) (h : Own w base v L) (h1 : 1 ≤ k) (h2 : k + L.length ≤ 1099511627776) :
    Calls Try.prog 20 #[v, .int .i64 k] w fun e w' => e = .returned (.int .i64 ((k + L.length : Nat) : Int)) ∧ Own w' base v (markL k L.length) ∧ Only (ob w v) w w' := by
  obtain ⟨a, cap, rfl, hcap, hcm, hR, hna, hsome⟩ := h.form
  cases a with
  | none =>
    have e := hR.none_nil
    subst e
    have e := hna rfl
    subst e
    clear hsome hna
    go_enter Try.func20, Try.ntmps20
    go_wp2_with (fail)
    refine wp_loop_rounds 1 ?_
    rw [rounds_succ]
    go_wp2_with (fail)
    go_ret
    exact ⟨by simp, h, Only.refl _ _⟩
  | some x =>
    obtain ⟨g, rfl, hbg, hgl⟩ := hsome x rfl
    have eo : ob w (.slice (some ⟨g, 0, none⟩) L.length cap) = g := rfl
    rw [eo]
    have HO := hidIt h
    generalize hn : L.length = n at *
    have HN := hidIt hn
    clear h hR hna hsome hn eo hcm
    go_enter Try.func20, Try.ntmps20
    go_wp2_with (fail)
    go_loopw [1, 5] (fun z y wx => ∃ (i : Nat) (M : List ByteArray), y = .int .i64 i ∧ z = .int .i64 ((k + i : Nat) : Int) ∧ i ≤ n ∧ M.length = n ∧ Hid (∀ j, j < i → sat M j = mt (k + j)) ∧ Own wx base (.slice (some ⟨g, 0, none⟩) n cap) M ∧ Only g w wx) (fun _ y _ => (n - intOf y).toNat)
    case atStart => exact ⟨0, L, rfl, rfl, by omega, HN.out, hidIt (fun j hj => by omega), HO.out, Only.refl _ _⟩
    case round =>
      obtain ⟨i, M, rfl, rfl, hi, hM, hE, hO, hY⟩ := hrel
      have HM := hidIt hM
      have HOx := hidIt hO
      have HY := hidIt hY
      clear hM hO hY
      by_cases hin : i < n
      · have hin' : (i : Int) < (n : Int) := by omega
        have hiM : i < M.length := by rw [HM.out]; exact hin
        generalize hk : k + i = q
        have HK := hidIt hk
        clear hk
        have q1 : q + 1 ≤ 1099511627776 := by have := HK.out; omega
        have CM := hidIt (fun w => markText_any q w (by have := HK.out; omega) (by omega))
        go_wp2_with (fail)
        refine (CM.out _).mono ?_
        rintro e w1 ⟨rfl, hb1⟩
        have HO1 := hidIt (HOx.out.kept hb1)
        obtain ⟨c0, f0⟩ := HO1.out.at hiM
        have HY1 := hidIt (HY.out.trans (Only.of_below hb1))
        have HL := hidIt (HO1.out.set (i := i) (mt q))
        have HMi := hidIt hiM
        clear hb1 HOx HY HO1 hiM
        generalize hmt : mt q = tx at HL
        have HTX := hidIt hmt
        clear hmt
        go_wp2_with (fail)
        refine ⟨⟨i + 1, _, by simp, ?_, by omega, by rw [List.length_set]; exact HM.out, hidIt (fun j hj => ?_), HL.out, HY1.out.setCell _ _⟩, by simp [intOf]; omega⟩
        · have := HK.out
          congr 1
          omega
        · rw [sat_set HMi.out]
          split
          · next e =>
            subst e
            rw [HK.out, HTX.out]
          · exact hE.out j (by omega)
      · have hin' : ¬ (i : Int) < (n : Int) := by omega
        have ei : i = n := by omega
        subst ei
        have e : M = markL k i := ext_sat (by rw [HM.out, markL_length]) (fun j hj => by rw [HM.out] at hj; rw [hE.out j hj, sat_markL _ _ _ hj])
        subst e
        generalize hk : k + i = q
        go_wp2_with (fail)
        go_ret
        exact ⟨rfl, HOx.out, HY.out⟩
theorem held1_drew {W wA : World} {b x : Nat} {a0 : Value} (k : Below W.drew.heap.size W.drew wA) (h : W.cell? ⟨b, x, none⟩ = some a0) : wA.cell? ⟨b, x, none⟩ = some a0 := by
  rw [k.cell (p := ⟨b, x, none⟩) (cell_block (w := W) h)]
  exact h
set_option maxRecDepth 100000 in
set_option maxHeartbeats 4000000 in
theorem heldStringS_any (a : Option Addr) (cap n k : Nat) (w : World) (h : Rd w a (markL k n)) (h1 : 1 ≤ k) (h2 : k + n ≤ 1099511627776) :
    Calls Try.prog 21 #[.slice a n cap, .int .i64 k] w fun e w' => e = .returned (.int .i64 ((k + n : Nat) : Int)) ∧ Below w.heap.size w w' := by
  have HR := hidIt h
  clear h
  go_enter Try.func21, Try.ntmps21
  go_wp2_with (fail)
  go_loopw [1, 5] (fun z y wx => ∃ i : Nat, y = .int .i64 i ∧ z = .int .i64 ((k + i : Nat) : Int) ∧ i ≤ n ∧ Below w.heap.size w wx) (fun _ y _ => (n - intOf y).toNat)
  case atStart => exact ⟨0, rfl, rfl, by omega, Below.refl _ _⟩
  case round =>
    obtain ⟨i, rfl, rfl, hi, hB⟩ := hrel
    have RA := hidIt (HR.out.kept hB)
    have HB := hidIt hB
    clear hB
    by_cases hin : i < n
    · have hin' : (i : Int) < (n : Int) := by omega
      obtain ⟨b, off, rfl, c0⟩ := RA.out.cell i (by rw [markL_length]; exact hin)
      rw [sat_markL _ _ _ hin] at c0
      have CM := hidIt (fun w => markText_any (k + i) w (by omega) (by omega))
      have q1 : k + i + 1 ≤ 1099511627776 := by omega
      have q3 : Hid (k + (i + 1) = k + i + 1) := hidIt (by omega)
      generalize k + i = q at c0 CM q1 q3
      generalize mt q = tx at c0 CM
      clear HR RA
      go_wp2_with (fail)
      go_region_with (first | (go_at_call 25; refine (CM.out _).mono ?_; rintro e wB ⟨rfl, hbB⟩; have d0 := held1_drew hbB c0))
      all_goals
        have hBB : Hid (Below w.heap.size w wB) := hidIt (HB.out.drew.trans (hbB.mono (by have := HB.out.size; simpa using this)))
        clear hbB
        go_wp2_with (fail)
        refine ⟨⟨i + 1, by simp, ?_, by omega, hBB.out⟩, by simp [intOf]; omega⟩
        rw [q3.out]
        congr 1
    · have hin' : ¬ (i : Int) < (n : Int) := by omega
      have ei : i = n := by omega
      subst ei
      generalize hk : k + i = q
      go_wp2_with (fail)
      go_ret
      exact ⟨rfl, HB.out⟩
/-- What lies below a row that is written, or above it, stays. -/
theorem Own.lo {w w' : World} {b b' : Nat} {u v : Value} {M L : List ByteArray} (hu : Own w b u M) (hv : Own w b' v L) (Y : Only (ob w v) w w') (hlt : ∀ g, u.ownBlock = some g → g < b') : Own w' b u M := by
  refine hu.only Y (.inr fun g hg => ?_)
  have h1 := hlt g hg
  have h2 := (World.ownsRow.lt hu g hg).2
  unfold ob
  cases hvb : v.ownBlock with
  | none => simp; omega
  | some x => have := (World.ownsRow.lt hv x hvb).1; simp; omega
theorem Own.blk {w : World} {b : Nat} {v : Value} {L : List ByteArray} (hv : Own w b v L) {X : Nat} (hX : w.heap.size ≤ X) : ∀ g, v.ownBlock = some g → g < X := fun g hg => by
  have := (World.ownsRow.lt hv g hg).2; omega
theorem ob_below {W w w' : World} {b B : Nat} {v : Value} {L : List ByteArray} (k : Below B W w) (hv : Own w b v L) (Y : Only (ob w v) w w') (hb : B ≤ b) (hs : B ≤ w.heap.size) : Below B W w' := by
  refine k.trans (Y.below ?_ hs)
  unfold ob
  cases hvb : v.ownBlock with
  | none => simpa using hs
  | some x => have := (World.ownsRow.lt hv x hvb).1; simp; omega
set_option maxRecDepth 100000 in
set_option maxHeartbeats 4000000 in
theorem eqStringS_any (a b : Option Addr) (ca cb : Nat) (L : List ByteArray) (w : World) (ha : Rd w a L) (hb : Rd w b L) (hl : L.length ≤ 9223372036854775806) :
    Calls Try.prog 19 #[.slice a L.length ca, .slice b L.length cb] w fun e w' => e = .returned (.bool true) ∧ Below w.heap.size w w' := by
  generalize hn : L.length = n at *
  have HA := hidIt ha
  have HB := hidIt hb
  have HN := hidIt hn
  clear ha hb hn
  have hnn : ((n : Int) != (n : Int)) = false := by simp
  go_enter Try.func19, Try.ntmps19
  go_wp2_with (fail)
  go_loopw [5] (fun y wx => ∃ i : Nat, y = .int .i64 i ∧ i ≤ n ∧ Below w.heap.size w wx) (fun y _ => (n - intOf y).toNat)
  case atStart => exact ⟨0, rfl, by omega, Below.refl _ _⟩
  case round =>
    obtain ⟨i, rfl, hi, hB⟩ := hrel
    have RA := hidIt (HA.out.kept hB)
    have RB := hidIt (HB.out.kept hB)
    have KX := hidIt hB
    clear hB
    by_cases hin : i < n
    · have hin' : (i : Int) < (n : Int) := by omega
      obtain ⟨b1, o1, rfl, c0⟩ := RA.out.cell i (by rw [HN.out]; omega)
      obtain ⟨b2, o2, rfl, d0⟩ := RB.out.cell i (by rw [HN.out]; omega)
      generalize sat L i = s at c0 d0
      clear RA RB HA HB
      go_wp2_with (fail)
      go_quiet (fail)
      go_wp2_with (fail)
      exact ⟨⟨i + 1, by simp, by omega, Go.Proofs.Ytmhfaeddfibohab.Below.drewN KX.out _⟩, by simp [intOf]; omega⟩
    · have hin' : ¬ (i : Int) < (n : Int) := by omega
      go_wp2_with (fail)
      go_ret
      exact ⟨rfl, KX.out⟩
end Go.Proofs.Ytmhfaeddfibohab.Nm
