/-
  The laws' marks of chapter 4: markText, markLineS, heldLineS.
-/
import Derived.Test.YtgbnkkjjgodilaaLogM
namespace Go.Proofs.Ytgbnkkjjgodilaa.Lg
open Go.ChangeShapes Go.WideShapes Go.ChangeAt Go.RowKit
open Sg
set_option linter.unusedVariables false
/-- The mark of a number: m and its digits. -/
def mt (k : Nat) : ByteArray := ⟨#[109]⟩ ++ ⟨(Lib.decDigits k).toArray⟩
set_option maxRecDepth 100000 in
set_option maxHeartbeats 4000000 in
theorem markText_any (n : Nat) (w : World) (h1 : 1 ≤ n) (hn : n ≤ 1099511627776) :
    Calls Try.prog 28 #[.int .i64 n] w fun e w' => e = .returned (.string (mt n)) ∧ Below w.heap.size w w' := by
  have h0 : ¬ (n : Int) ≤ 0 := by omega
  have em : mt n = ⟨#[109]⟩ ++ ⟨(Lib.decDigits n).toArray⟩ := rfl
  rw [em]
  clear em
  go_enter Try.func28, Try.ntmps28
  go_wp2_with (fail)
  go_loopw [0, 3] (fun y z wx => ∃ (m : Nat) (s : ByteArray), y = .int .i64 m ∧ z = .string s ∧ m ≤ 1099511627776 ∧ s.size + m ≤ n + 1 ∧ Lr n m s.data.toList ∧ Below w.heap.size w wx) (fun y _ _ => (intOf y).toNat)
  case atStart => exact ⟨n, _, rfl, rfl, hn, by simp [ByteArray.size], .inl ⟨rfl, rfl⟩, Below.refl _ _⟩
  case round =>
    obtain ⟨m, s, rfl, rfl, hm, hsm, hL, hB⟩ := hrel
    have HL := hidIt hL
    have HB := hidIt hB
    clear hL hB
    by_cases hg : 0 < m
    · have l0 : (0 : Int) < m := by omega
      have l2 : (m : Int) ≤ 1099511627776 := by omega
      have l3 : ¬ (m : Int) % 10 < 0 := by omega
      have hq1 : (⟨#[48 + UInt8.ofNat (m % 10)]⟩ : ByteArray).size = 1 := rfl
      have hq2 : ¬ 9223372036854775807 < 1 + s.size := by omega
      have hq3 : Hid (1 + s.size + m / 10 ≤ n + 1) := hidIt (by omega)
      have hcv := cv1 (48 + m % 10) (by omega) wr
      have ec : ((48 + m % 10 : Nat) : Int) = 48 + (m : Int) % 10 := by omega
      rw [ec] at hcv
      clear ec
      have hstep := hidIt (HL.out.step (.inr (by omega)))
      have hg' := hidIt hg
      clear hg
      go_wp2_with (fail)
      refine ⟨⟨m / 10, _, by simp, rfl, by omega, by rw [ByteArray.size_append, hq1]; exact hq3.out, ?_, HB.out.alloc (HB.out.size) _⟩, ?_⟩
      · have := hstep.out
        simpa using this
      · have := hg'.out
        simp [intOf]; omega
    · have l0 : ¬ (0 : Int) < m := by omega
      have hz : m = 0 := by omega
      subst hz
      have hd : Hid (s.data.toList = Lib.decDigits n) := hidIt (by
        rcases HL.out with ⟨_, h⟩ | ⟨_, _, h⟩ | ⟨_, h, _⟩
        · omega
        · exact h
        · exact absurd rfl h)
      have hs1 : s = ⟨(Lib.decDigits n).toArray⟩ := by
        rw [← hd.out]
      have hq1 : (⟨#[109]⟩ : ByteArray).size = 1 := rfl
      have hq2 : ¬ 9223372036854775807 < 1 + s.size := by omega
      have HS := hidIt hs1
      clear hs1
      go_wp2_with (fail)
      go_ret
      exact ⟨by rw [HS.out]; rfl, HB.out⟩
/-- The marks of n Lines from number k on. -/
def markL (k n : Nat) : List Ln := (List.range n).map fun j => (mt (k + 2 * j), ((k + 2 * j + 1 : Nat) : Int))
theorem markL_length (k n : Nat) : (markL k n).length = n := by simp [markL]
theorem lat_markL (k n j : Nat) (h : j < n) : lat (markL k n) j = (mt (k + 2 * j), ((k + 2 * j + 1 : Nat) : Int)) := by
  unfold markL
  rw [lat_map _ _ _ h]
/-- The block that a slice owns; of none, one that is not there. -/
def ob (w : World) (v : Value) : Nat := v.ownBlock.getD w.heap.size
set_option maxRecDepth 100000 in
set_option maxHeartbeats 4000000 in
theorem markLineS_any (base : Nat) (v : Value) (L : List Ln) (k : Nat) (w : World) (h : Own w base v L) (h1 : 1 ≤ k) (h2 : k + 2 * L.length ≤ 1099511627776) :
    Calls Try.prog 27 #[v, .int .i64 k] w fun e w' => e = .returned (.int .i64 ((k + 2 * L.length : Nat) : Int)) ∧ Own w' base v (markL k L.length) ∧ Only (ob w v) w w' := by
  obtain ⟨a, cap, rfl, hcap, hcm, hR, hna, hsome⟩ := h.form
  cases a with
  | none =>
    have e := hR.none_nil
    subst e
    have e := hna rfl
    subst e
    clear hsome hna
    go_enter Try.func27, Try.ntmps27
    go_wp2_with (fail)
    refine wp_loop_rounds 1 ?_
    rw [rounds_succ]
    go_wp2_with (fail)
    go_ret
    exact ⟨by simp, h, Only.refl _ _⟩
  | some x =>
    obtain ⟨g, rfl, hbg, hgl⟩ := hsome x rfl
    have eo : ob w (.slice (some ⟨g, 0, none⟩) L.length cap) = g := rfl
    rw [eo]
    have HO := hidIt h
    generalize hn : L.length = n at *
    have HN := hidIt hn
    clear h hR hna hsome hn eo hcm
    go_enter Try.func27, Try.ntmps27
    go_wp2_with (fail)
    go_loopw [1, 5] (fun z y wx => ∃ (i : Nat) (M : List Ln), y = .int .i64 i ∧ z = .int .i64 ((k + 2 * i : Nat) : Int) ∧ i ≤ n ∧ M.length = n ∧ Hid (∀ j, j < i → lat M j = (mt (k + 2 * j), ((k + 2 * j + 1 : Nat) : Int))) ∧ Own wx base (.slice (some ⟨g, 0, none⟩) n cap) M ∧ Only g w wx) (fun _ y _ => (n - intOf y).toNat)
    case atStart => exact ⟨0, L, rfl, rfl, by omega, HN.out, hidIt (fun j hj => by omega), HO.out, Only.refl _ _⟩
    case round =>
      obtain ⟨i, M, rfl, rfl, hi, hM, hE, hO, hY⟩ := hrel
      have HM := hidIt hM
      have HOx := hidIt hO
      have HY := hidIt hY
      clear hM hO hY
      by_cases hin : i < n
      · have hin' : (i : Int) < (n : Int) := by omega
        have hiM : i < M.length := by rw [HM.out]; exact hin
        generalize hk : k + 2 * i = q
        have HK := hidIt hk
        clear hk
        have q1 : q + 2 ≤ 1099511627776 := by have := HK.out; omega
        have CM := hidIt (fun w => markText_any q w (by have := HK.out; omega) (by omega))
        go_wp2_with (fail)
        refine (CM.out _).mono ?_
        rintro e w1 ⟨rfl, hb1⟩
        have HO1 := hidIt (HOx.out.kept hb1)
        obtain ⟨c0, c1, f0, f1⟩ := HO1.out.at hiM
        have HY1 := hidIt (HY.out.trans (Only.of_below hb1))
        have HL := hidIt (HO1.out.line hiM (mt q) ((q + 1 : Nat) : Int))
        have HMi := hidIt hiM
        clear hb1 HOx HY HO1 hiM
        generalize hmt : mt q = tx at HL
        have HTX := hidIt hmt
        clear hmt
        have q2 : ((q + 1 : Nat) : Int) = (q : Int) + 1 := by omega
        rw [q2] at HL
        clear q2
        go_wp2_with (fail)
        refine ⟨⟨i + 1, _, by simp, ?_, by omega, by rw [List.length_set]; exact HM.out, hidIt (fun j hj => ?_), HL.out, (HY1.out.setCell _ _).setCell _ _⟩, by simp [intOf]; omega⟩
        · have := HK.out
          congr 1
          omega
        · rw [lat_set HMi.out]
          split
          · next e =>
            subst e
            rw [HK.out, HTX.out]
            simp
          · exact hE.out j (by omega)
      · have hin' : ¬ (i : Int) < (n : Int) := by omega
        have ei : i = n := by omega
        subst ei
        have e : M = markL k i := ext_lat (by rw [HM.out, markL_length]) (fun j hj => by rw [HM.out] at hj; rw [hE.out j hj, lat_markL _ _ _ hj])
        subst e
        generalize hk : k + 2 * i = q
        go_wp2_with (fail)
        go_ret
        exact ⟨rfl, HOx.out, HY.out⟩
set_option maxRecDepth 100000 in
set_option maxHeartbeats 4000000 in
theorem heldLineS_any (a : Option Addr) (cap n k : Nat) (w : World) (h : Rd w a (markL k n)) (h1 : 1 ≤ k) (h2 : k + 2 * n ≤ 1099511627776) :
    Calls Try.prog 32 #[.slice a n cap, .int .i64 k] w fun e w' => e = .returned (.int .i64 ((k + 2 * n : Nat) : Int)) ∧ Below w.heap.size w w' := by
  have HR := hidIt h
  clear h
  go_enter Try.func32, Try.ntmps32
  go_wp2_with (fail)
  go_loopw [1, 5] (fun z y wx => ∃ i : Nat, y = .int .i64 i ∧ z = .int .i64 ((k + 2 * i : Nat) : Int) ∧ i ≤ n ∧ Below w.heap.size w wx) (fun _ y _ => (n - intOf y).toNat)
  case atStart => exact ⟨0, rfl, rfl, by omega, Below.refl _ _⟩
  case round =>
    obtain ⟨i, rfl, rfl, hi, hB⟩ := hrel
    have RA := hidIt (HR.out.kept hB)
    have HB := hidIt hB
    clear hB
    by_cases hin : i < n
    · have hin' : (i : Int) < (n : Int) := by omega
      obtain ⟨b, off, rfl, c0, c1⟩ := RA.out.cell i (by rw [markL_length]; exact hin)
      rw [lat_markL _ _ _ hin] at c0 c1
      simp only at c0 c1
      have CM := hidIt (fun w => markText_any (k + 2 * i) w (by omega) (by omega))
      have q1 : k + 2 * i + 2 ≤ 1099511627776 := by omega
      have q3 : Hid (k + 2 * (i + 1) = k + 2 * i + 2) := hidIt (by omega)
      generalize k + 2 * i = q at c0 c1 CM q1 q3
      generalize mt q = tx at c0 CM
      have q2 : ((q + 1 : Nat) : Int) = (q : Int) + 1 := by omega
      rw [q2] at c1
      clear q2
      have hf := And.intro c0 c1
      clear HR RA
      go_wp2_with (fail)
      go_region_held3 (fun w' => w'.cell? ⟨b, off + i * 2, none⟩ = some (.string tx) ∧ w'.cell? ⟨b, off + i * 2 + 1, none⟩ = some (.int .i64 ((q : Int) + 1)))
        (first | assumption | (with_reducible exact held2c_drew hbB hf) | go_keep)
        (first | (go_at_call 28; refine (CM.out _).mono ?_; rintro e wB ⟨rfl, hbB⟩))
      have hBB : Hid (Below w.heap.size w wB) := hidIt (HB.out.drew.trans (hbB.mono (by have := HB.out.size; simpa using this)))
      have hg : wB.cell? ⟨b, off + i * 2, none⟩ = some (.string tx) ∧ wB.cell? ⟨b, off + i * 2 + 1, none⟩ = some (.int .i64 ((q : Int) + 1)) := by assumption
      obtain ⟨g0, g1⟩ := hg
      clear hbB hf
      have hne : ((q : Int) + 1 != (q : Int) + 1) = false := by simp
      go_wp2_with (fail)
      refine ⟨⟨i + 1, by simp, ?_, by omega, hBB.out⟩, by simp [intOf]; omega⟩
      rw [q3.out]
      congr 1
    · have hin' : ¬ (i : Int) < (n : Int) := by omega
      have ei : i = n := by omega
      subst ei
      generalize hk : k + 2 * i = q
      go_wp2_with (fail)
      go_ret
      exact ⟨rfl, HB.out⟩
/-- What lies below a row that is written, or above it, stays. -/
theorem Own.lo {w w' : World} {b b' : Nat} {u v : Value} {M L : List Ln} (hu : Own w b u M) (hv : Own w b' v L) (Y : Only (ob w v) w w') (hlt : ∀ g, u.ownBlock = some g → g < b') : Own w' b u M := by
  refine hu.only Y (.inr fun g hg => ?_)
  have h1 := hlt g hg
  have h2 := (World.ownsRow.lt hu g hg).2
  unfold ob
  cases hvb : v.ownBlock with
  | none => simp; omega
  | some x => have := (World.ownsRow.lt hv x hvb).1; simp; omega
theorem Own.hi {w w' : World} {b b' : Nat} {u v : Value} {M L : List Ln} (hu : Own w b u M) (hv : Own w b' v L) (Y : Only (ob w v) w w') (hlt : ∀ g, v.ownBlock = some g → g < b) : Own w' b u M := by
  refine hu.only Y (.inr fun g hg => ?_)
  have h1 := World.ownsRow.lt hu g hg
  unfold ob
  cases hvb : v.ownBlock with
  | none => simp; omega
  | some x => have := hlt x hvb; simp; omega
theorem Own.blk {w : World} {b : Nat} {v : Value} {L : List Ln} (hv : Own w b v L) {X : Nat} (hX : w.heap.size ≤ X) : ∀ g, v.ownBlock = some g → g < X := fun g hg => by
  have := (World.ownsRow.lt hv g hg).2; omega
theorem ob_below {W w w' : World} {b B : Nat} {v : Value} {L : List Ln} (k : Below B W w) (hv : Own w b v L) (Y : Only (ob w v) w w') (hb : B ≤ b) (hs : B ≤ w.heap.size) : Below B W w' := by
  refine k.trans (Y.below ?_ hs)
  unfold ob
  cases hvb : v.ownBlock with
  | none => simpa using hs
  | some x => have := (World.ownsRow.lt hv x hvb).1; simp; omega
end Go.Proofs.Ytgbnkkjjgodilaa.Lg
