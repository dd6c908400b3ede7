/-
  Marks written into a list of Points of the call's own, and looked for again; what stays beside a row that is written.
-/
import Derived.Test.YtnnmnpognhplbaaPtP
namespace Go.Proofs.Ytnnmnpognhplbaa.Pt
open Go.ChangeShapes Go.WideShapes Go.ChangeAt Go.RowKit
set_option linter.unusedVariables false
theorem lat_mapN (n : Nat) (f : Nat → Ln) (i : Nat) (hi : i < n) : lat ((List.range n).map f) i = f i := by
  unfold lat
  rw [List.getD_eq_getElem?_getD, List.getElem?_map, List.getElem?_range hi]
  rfl
/-- The marks of n Points from number k on. -/
def markP (k n : Nat) : List Ln := (List.range n).map fun j => (((k + 2 * j : Nat) : Int), ((k + 2 * j + 1 : Nat) : Int))
theorem markP_length (k n : Nat) : (markP k n).length = n := by simp [markP]
theorem lat_markP (k n j : Nat) (h : j < n) : lat (markP k n) j = (((k + 2 * j : Nat) : Int), ((k + 2 * j + 1 : Nat) : Int)) := by
  unfold markP
  rw [lat_mapN _ _ _ h]
/-- The block that a slice owns; of none, one that is not there. -/
def ob (w : World) (v : Value) : Nat := v.ownBlock.getD w.heap.size
theorem Rd.none_nil {w : World} {L : List Ln} (h : Rd w none L) : L = [] := by
  cases L with
  | nil => rfl
  | cons x r => obtain ⟨b, off, e, _⟩ := h.cell 0 (by simp); cases e
theorem Own.lo {w w' : World} {b b' : Nat} {u v : Value} {M L : List Ln} (hu : Own w b u M) (hv : Own w b' v L) (Y : Only (ob w v) w w') (hlt : ∀ g, u.ownBlock = some g → g < b') : Own w' b u M := by
  refine hu.only Y (.inr fun g hg => ?_)
  have h1 := hlt g hg
  have h2 := (World.ownsRow.lt hu g hg).2
  unfold ob
  cases hvb : v.ownBlock with
  | none => simp; omega
  | some x => have := (World.ownsRow.lt hv x hvb).1; simp; omega
theorem Own.blk {w : World} {b : Nat} {v : Value} {L : List Ln} (hv : Own w b v L) {X : Nat} (hX : w.heap.size ≤ X) : ∀ g, v.ownBlock = some g → g < X := fun g hg => by
  have := (World.ownsRow.lt hv g hg).2; omega
theorem ob_below {W w w' : World} {b B : Nat} {v : Value} {L : List Ln} (k : Below B W w) (hv : Own w b v L) (Y : Only (ob w v) w w') (hb : B ≤ b) (hs : B ≤ w.heap.size) : Below B W w' := by
  refine k.trans (Y.below ?_ hs)
  unfold ob
  cases hvb : v.ownBlock with
  | none => simpa using hs
  | some x => have := (World.ownsRow.lt hv x hvb).1; simp; omega
set_option maxRecDepth 100000 in
set_option maxHeartbeats 4000000 in
theorem markPointS_any (base : Nat) (v : Value) (L : List Ln) (k : Nat) (w : World) (h : Own w base v L) (h1 : 1 ≤ k) (h2 : k + 2 * L.length ≤ 1099511627776) :
    Calls Try.prog 8 #[v, .int .i64 k] w fun e w' => e = .returned (.int .i64 ((k + 2 * L.length : Nat) : Int)) ∧ Own w' base v (markP k L.length) ∧ Only (ob w v) w w' := by
  obtain ⟨a, cap, rfl, hcap, hcm, hR, hna, hsome⟩ := h.form
  cases a with
  | none =>
    have e := hR.none_nil
    subst e
    have e := hna rfl
    subst e
    clear hsome hna
    go_enter Try.func8, Try.ntmps8
    go_wp2_with (fail)
    refine wp_loop_rounds 1 ?_
    rw [rounds_succ]
    go_wp2_with (fail)
    go_ret
    exact ⟨by simp, h, Only.refl _ _⟩
  | some x =>
    obtain ⟨g, rfl, hbg, hgl⟩ := hsome x rfl
    have eo : ob w (.slice (some ⟨g, 0, none⟩) L.length cap) = g := rfl
    rw [eo]
    have HO := hidIt h
    generalize hn : L.length = n at *
    have HN := hidIt hn
    clear h hR hna hsome hn eo hcm
    go_enter Try.func8, Try.ntmps8
    go_wp2_with (fail)
    go_loopw [1, 5] (fun z y wx => ∃ (i : Nat) (M : List Ln), y = .int .i64 i ∧ z = .int .i64 ((k + 2 * i : Nat) : Int) ∧ i ≤ n ∧ M.length = n ∧ Hid (∀ j, j < i → lat M j = (((k + 2 * j : Nat) : Int), ((k + 2 * j + 1 : Nat) : Int))) ∧ Own wx base (.slice (some ⟨g, 0, none⟩) n cap) M ∧ Only g w wx) (fun _ y _ => (n - intOf y).toNat)
    case atStart => exact ⟨0, L, rfl, rfl, by omega, HN.out, hidIt (fun j hj => by omega), HO.out, Only.refl _ _⟩
    case round =>
      obtain ⟨i, M, rfl, rfl, hi, hM, hE, hO, hY⟩ := hrel
      have HM := hidIt hM
      have HO1 := hidIt hO
      have HY1 := hidIt hY
      clear hM hO hY
      by_cases hin : i < n
      · have hin' : (i : Int) < (n : Int) := by omega
        have hiM : i < M.length := by rw [HM.out]; exact hin
        generalize hk : k + 2 * i = q
        have HK := hidIt hk
        clear hk
        have q1 : q + 2 ≤ 1099511627776 := by have := HK.out; omega
        obtain ⟨c0, c1, f0, f1⟩ := HO1.out.at hiM
        have HL := hidIt (HO1.out.line hiM ((q : Nat) : Int) ((q + 1 : Nat) : Int))
        have HMi := hidIt hiM
        clear HO1 hiM
        have q2 : ((q + 1 : Nat) : Int) = (q : Int) + 1 := by omega
        rw [q2] at HL
        clear q2
        go_wp2_with (fail)
        refine ⟨⟨i + 1, _, by simp, ?_, by omega, by rw [List.length_set]; exact HM.out, hidIt (fun j hj => ?_), HL.out, (HY1.out.setCell _ _).setCell _ _⟩, by simp [intOf]; omega⟩
        · have := HK.out
          congr 1
          omega
        · rw [lat_set HMi.out]
          split
          · next e =>
            subst e
            rw [HK.out]
            simp
          · exact hE.out j (by omega)
      · have hin' : ¬ (i : Int) < (n : Int) := by omega
        have ei : i = n := by omega
        subst ei
        have e : M = markP k i := ext_lat (by rw [HM.out, markP_length]) (fun j hj => by rw [HM.out] at hj; rw [hE.out j hj, lat_markP _ _ _ hj])
        subst e
        generalize hk : k + 2 * i = q
        go_wp2_with (fail)
        go_ret
        exact ⟨rfl, HO1.out, HY1.out⟩
set_option maxRecDepth 100000 in
set_option maxHeartbeats 4000000 in
theorem heldPointS_any (a : Option Addr) (cap n k : Nat) (w : World) (h : Rd w a (markP k n)) (h1 : 1 ≤ k) (h2 : k + 2 * n ≤ 1099511627776) :
    Calls Try.prog 9 #[.slice a n cap, .int .i64 k] w fun e w' => e = .returned (.int .i64 ((k + 2 * n : Nat) : Int)) ∧ Below w.heap.size w w' := by
  have HR := hidIt h
  clear h
  go_enter Try.func9, Try.ntmps9
  go_wp2_with (fail)
  go_loopw [1, 5] (fun z y wx => ∃ i : Nat, y = .int .i64 i ∧ z = .int .i64 ((k + 2 * i : Nat) : Int) ∧ i ≤ n ∧ Below w.heap.size w wx) (fun _ y _ => (n - intOf y).toNat)
  case atStart => exact ⟨0, rfl, rfl, by omega, Below.refl _ _⟩
  case round =>
    obtain ⟨i, rfl, rfl, hi, hB⟩ := hrel
    have RA := hidIt (HR.out.kept hB)
    have HB := hidIt hB
    clear hB
    by_cases hin : i < n
    · have hin' : (i : Int) < (n : Int) := by omega
      obtain ⟨b, off, rfl, c0, c1⟩ := RA.out.cell i (by rw [markP_length]; exact hin)
      rw [lat_markP _ _ _ hin] at c0 c1
      simp only at c0 c1
      have q1 : k + 2 * i + 2 ≤ 1099511627776 := by omega
      have q3 : Hid (k + 2 * (i + 1) = k + 2 * i + 2) := hidIt (by omega)
      generalize k + 2 * i = q at c0 c1 q1 q3
      have q2 : ((q + 1 : Nat) : Int) = (q : Int) + 1 := by omega
      rw [q2] at c1
      clear q2
      clear HR RA
      have hne : ((q : Int) + 1 != (q : Int) + 1) = false := by simp
      have hn0 : ((q : Int) != (q : Int)) = false := by simp
      go_wp2_with (fail)
      refine ⟨⟨i + 1, by simp, ?_, by omega, HB.out⟩, by simp [intOf]; omega⟩
      rw [q3.out]
      congr 1
    · have hin' : ¬ (i : Int) < (n : Int) := by omega
      have ei : i = n := by omega
      subst ei
      generalize hk : k + 2 * i = q
      go_wp2_with (fail)
      go_ret
      exact ⟨rfl, HB.out⟩
end Go.Proofs.Ytnnmnpognhplbaa.Pt
