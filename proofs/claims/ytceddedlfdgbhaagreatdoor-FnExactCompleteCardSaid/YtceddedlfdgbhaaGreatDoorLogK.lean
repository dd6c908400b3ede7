/-
  LogOk of the program and of the specification: is the list a log?
-/
import Derived.Test.YtceddedlfdgbhaaGreatDoorLogI
import Derived.Deep.RegionHeld3
import Derived.Deep.QuietTactic
import Derived.BigQuiet
namespace Go.Proofs.YtceddedlfdgbhaaGreatDoor.Lg
open Go.ChangeShapes Go.WideShapes Go.ChangeAt Go.RowKit
open Sg
theorem tab_drew {w : World} (h : Tab w) : Tab w.drew := h
theorem held2 {W wA : World} {b : Nat} {a0 a1 : Value} (k : Below W.heap.size W wA) (h : W.cell? ⟨b, 0, none⟩ = some a0 ∧ W.cell? ⟨b, 1, none⟩ = some a1) (l0 : b < W.heap.size) : wA.cell? ⟨b, 0, none⟩ = some a0 ∧ wA.cell? ⟨b, 1, none⟩ = some a1 := by
  rw [k.cell (p := ⟨b, 0, none⟩) l0, k.cell (p := ⟨b, 1, none⟩) l0]
  exact h
theorem held2_drew {W wA : World} {b : Nat} {a0 a1 : Value} (k : Below W.drew.heap.size W.drew wA) (h : W.cell? ⟨b, 0, none⟩ = some a0 ∧ W.cell? ⟨b, 1, none⟩ = some a1) (l0 : b < W.heap.size) : wA.cell? ⟨b, 0, none⟩ = some a0 ∧ wA.cell? ⟨b, 1, none⟩ = some a1 := held2 (W := W.drew) k h l0
set_option maxRecDepth 100000 in
set_option maxHeartbeats 4000000 in
theorem impl_LogOk (a : Option Addr) (cap : Nat) (L : List Ln) (w : World) (h : Rd w a L) (hcap : L.length ≤ cap) (ht : Tab w) :
    Calls Tryz.prog 67 #[.slice a L.length cap] w fun e w' => e = .returned (.bool (okL L)) ∧ Below w.heap.size w w' := by
  by_cases hbig : 300 < L.length
  · have h1 : (300 : Int) < (L.length : Int) := by omega
    rw [okL_false (fun k => by have := k.1; omega)]
    go_enter Tryz.func67, Tryz.ntmps67
    go_wp2
    go_ret
    exact ⟨rfl, Below.refl _ _⟩
  · have h1 : ¬ (300 : Int) < (L.length : Int) := by omega
    have HR := hidIt h
    have HT := hidIt ht
    generalize hn : L.length = n at h1 hcap
    have HN := hidIt hn
    clear h ht hn
    go_enter Tryz.func67, Tryz.ntmps67
    go_wp2_with (fail)
    go_loopw [10] (fun y wx => ∃ i : Nat, y = .int .i64 i ∧ i ≤ n ∧ Hid (∀ j, j < i → Good L j) ∧ Below w.heap.size w wx) (fun y _ => (n - intOf y).toNat)
    case atStart => exact ⟨0, rfl, by omega, hidIt (fun j hj => by omega), Below.refl _ _⟩
    case round =>
      obtain ⟨i, rfl, hi, hG, hB⟩ := hrel
      have HB := hidIt hB
      have HRx := hidIt (HR.out.kept hB)
      clear hB
      by_cases hin : i < n
      · have hin' : (i : Int) < (n : Int) := by omega
        obtain ⟨b, off, rfl, c0, c1⟩ := HRx.out.cell i (by rw [HN.out]; exact hin)
        generalize hx : lat L i = x at c0 c1
        have HX := hidIt hx
        clear hx
        obtain ⟨s, q⟩ := x
        by_cases hs : 100 < s.size
        · have hs' : (100 : Int) < (s.size : Int) := by omega
          go_wp2_with (fail)
          have f0 : (wr.alloc (.cells #[.string s, .int .i64 q] 67)).cell? ⟨wr.heap.size, 0, none⟩ = some (.string s) := by simp
          have HBz := hidIt (HB.out.alloc (HB.out.size) (.cells #[.string s, .int .i64 q] 67))
          generalize wr.alloc (.cells #[.string s, .int .i64 q] 67) = wz at f0 HBz ⊢
          go_quiet (fail)
          go_wp2_with (fail)
          go_ret
          rw [okL_false (logIs_cut (by rw [HN.out]; exact hin) (fun k => by have := k.1; rw [HX.out] at this; simp only at this; omega))]
          exact ⟨rfl, Go.Proofs.YtceddedlfdgbhaaGreatDoor.Below.drewN HBz.out _⟩
        · have hs' : decide ((100 : Int) < (s.size : Int)) = false := by simp; omega
          have hp := prev_lt hG.out
          have CL : ∀ w', Rd w' (some ⟨b, off, none⟩) L → Calls Tryz.prog 86 #[.slice (some ⟨b, off, none⟩) i cap] w' fun e w'' => e = .returned (.int .i64 (prev L i : Int)) ∧ w'' = w' := by
            intro w' hr
            have := impl_lastSum (some ⟨b, off, none⟩) cap (L.take i) w' (hr.take i) (by rw [List.length_take]; omega)
            rw [List.length_take, Nat.min_eq_left (by rw [HN.out]; exact hi)] at this
            rcases prev_cast hG.out with e | e
            · rwa [e] at this
            · rw [HN.out] at e; omega
          have CS := fun w' ht => impl_sumBehind (prev L i) s w' (by omega) (by omega) ht
          have HG : Hid (Good L i ↔ q = (sumN (prev L i) s : Int)) := by
            refine hidIt ?_
            unfold Good
            rw [HX.out]
            exact ⟨fun k => k.2, fun k => ⟨by simp only; omega, k⟩⟩
          generalize prev L i = pv at CL CS hp HG
          generalize sumN pv s = sm at CS HG
          have HCL := hidIt CL
          have HCS := hidIt CS
          clear CL CS
          go_wp2_with (fail)
          have f0 : (wr.alloc (.cells #[.string s, .int .i64 q] 67)).cell? ⟨wr.heap.size, 0, none⟩ = some (.string s) ∧ (wr.alloc (.cells #[.string s, .int .i64 q] 67)).cell? ⟨wr.heap.size, 1, none⟩ = some (.int .i64 q) := by simp
          have HBz := hidIt (HB.out.alloc (HB.out.size) (.cells #[.string s, .int .i64 q] 67))
          have HRz := hidIt (HRx.out.alloc (.cells #[.string s, .int .i64 q] 67))
          have hz : wr.heap.size < (wr.alloc (.cells #[.string s, .int .i64 q] 67)).heap.size := by simp
          have HTz := hidIt (HT.out.kept HBz.out)
          generalize wr.alloc (.cells #[.string s, .int .i64 q] 67) = wz at f0 HBz HRz HTz hz ⊢
          have hil : i ≤ cap := by omega
          go_region_held3 (fun w' => w'.cell? ⟨wr.heap.size, 0, none⟩ = some (.string s) ∧ w'.cell? ⟨wr.heap.size, 1, none⟩ = some (.int .i64 q))
            (first | assumption | (with_reducible refine held2_drew hbB f0 ?_; exact hz) | go_keep)
            (first
              | (go_at_call 86; refine (HCL.out _ HRz.out.drew).mono ?_; rintro e wA ⟨rfl, rfl⟩)
              | (go_at_call 85; refine (HCS.out _ (tab_drew HTz.out)).mono ?_; rintro e wB ⟨rfl, hbB⟩))
          have hBB : Hid (Below w.heap.size w wB) := hidIt (HBz.out.drew.trans (hbB.mono (by have := HBz.out.size; simpa using this)))
          clear hbB
          go_wp2_with (fail)
          · have hq : (q != (sm : Int)) = true := by assumption
            go_ret
            rw [okL_false (logIs_cut (by rw [HN.out]; exact hin) (fun k => by have := HG.out.1 k; simp [this] at hq))]
            exact ⟨rfl, hBB.out⟩
          · have hq : (q != (sm : Int)) = false := by assumption
            refine ⟨⟨i + 1, by simp, by omega, hidIt (fun j hj => ?_), hBB.out⟩, by simp [intOf]; omega⟩
            rcases Nat.lt_or_ge j i with h' | h'
            · exact hG.out j h'
            · have : j = i := by omega
              subst this
              exact HG.out.2 (by simpa using hq)
      · have hin' : ¬ (i : Int) < (n : Int) := by omega
        have e5 : i = n := by omega
        subst e5
        go_wp2_with (fail)
        go_ret
        rw [okL_true ⟨by omega, fun j hj => hG.out j (by rw [HN.out] at hj; exact hj)⟩]
        exact ⟨rfl, HB.out⟩
theorem held2c {W wA : World} {b x y : Nat} {a0 a1 : Value} (k : Below W.heap.size W wA) (h : W.cell? ⟨b, x, none⟩ = some a0 ∧ W.cell? ⟨b, y, none⟩ = some a1) : wA.cell? ⟨b, x, none⟩ = some a0 ∧ wA.cell? ⟨b, y, none⟩ = some a1 := by
  rw [k.cell (p := ⟨b, x, none⟩) (cell_block h.1), k.cell (p := ⟨b, y, none⟩) (cell_block h.1)]
  exact h
theorem held2c_drew {W wA : World} {b x y : Nat} {a0 a1 : Value} (k : Below W.drew.heap.size W.drew wA) (h : W.cell? ⟨b, x, none⟩ = some a0 ∧ W.cell? ⟨b, y, none⟩ = some a1) : wA.cell? ⟨b, x, none⟩ = some a0 ∧ wA.cell? ⟨b, y, none⟩ = some a1 := held2c (W := W.drew) k h
set_option maxRecDepth 100000 in
set_option maxHeartbeats 4000000 in
theorem spec_LogOk (a : Option Addr) (cap : Nat) (L : List Ln) (w : World) (h : Rd w a L) :
    Calls Tryz.prog 12 #[.slice a L.length cap] w fun e w' => e = .returned (.bool (okL L)) ∧ Below w.heap.size w w' := by
  by_cases hbig : 300 < L.length
  · have h1 : (300 : Int) < (L.length : Int) := by omega
    rw [okL_false (fun k => by have := k.1; omega)]
    go_enter Tryz.func12, Tryz.ntmps12
    go_wp2
    go_ret
    exact ⟨rfl, Below.refl _ _⟩
  · have h1 : ¬ (300 : Int) < (L.length : Int) := by omega
    have HR := hidIt h
    generalize hn : L.length = n at h1
    have HN := hidIt hn
    clear h hn
    go_enter Tryz.func12, Tryz.ntmps12
    go_wp2_with (fail)
    go_loopw [3, 4] (fun z y wx => ∃ i : Nat, y = .int .i64 i ∧ z = .int .i64 (prev L i : Int) ∧ i ≤ n ∧ Hid (∀ j, j < i → Good L j) ∧ Below w.heap.size w wx) (fun _ y _ => (n - intOf y).toNat)
    case atStart => exact ⟨0, rfl, rfl, by omega, hidIt (fun j hj => by omega), Below.refl _ _⟩
    case round =>
      obtain ⟨i, rfl, rfl, hi, hG, hB⟩ := hrel
      have HB := hidIt hB
      have HRx := hidIt (HR.out.kept hB)
      clear hB
      by_cases hin : i < n
      · have hin' : (i : Int) < (n : Int) := by omega
        obtain ⟨b, off, rfl, c0, c1⟩ := HRx.out.cell i (by rw [HN.out]; exact hin)
        generalize hx : lat L i = x at c0 c1
        have HX := hidIt hx
        clear hx
        obtain ⟨s, q⟩ := x
        by_cases hs : 100 < s.size
        · have hs' : (100 : Int) < (s.size : Int) := by omega
          clear HR HRx
          generalize (prev L i : Int) = pv
          go_wp2_with (fail)
          go_quiet (fail)
          go_wp2_with (fail)
          go_ret
          rw [okL_false (logIs_cut (by rw [HN.out]; exact hin) (fun k => by have := k.1; rw [HX.out] at this; simp only at this; omega))]
          exact ⟨rfl, Go.Proofs.YtceddedlfdgbhaaGreatDoor.Below.drewN HB.out _⟩
        · have hs' : decide ((100 : Int) < (s.size : Int)) = false := by simp; omega
          have hp := prev_lt hG.out
          have CS := fun w' => spec_l4Sum (prev L i) s w' (by omega) (by omega)
          have HG : Hid (Good L i ↔ q = (sumN (prev L i) s : Int)) := by
            refine hidIt ?_
            unfold Good
            rw [HX.out]
            exact ⟨fun k => k.2, fun k => ⟨by simp only; omega, k⟩⟩
          have HPN : Hid (∀ x : Nat, q = (x : Int) → (prev L (i + 1) : Int) = q) := hidIt (fun x hx => by rw [prev_succ, HX.out]; simp only; omega)
          generalize prev L i = pv at CS hp HG
          generalize sumN pv s = sm at CS HG
          have HCS := hidIt CS
          have hf := And.intro c0 c1
          clear CS HR HRx
          go_wp2_with (fail)
          go_region_held3 (fun w' => w'.cell? ⟨b, off + i * 2, none⟩ = some (.string s) ∧ w'.cell? ⟨b, off + i * 2 + 1, none⟩ = some (.int .i64 q))
            (first | assumption | (with_reducible exact held2c_drew hbB hf) | go_keep)
            (first | (go_at_call 23; refine (HCS.out _).mono ?_; rintro e wB ⟨rfl, hbB⟩))
          have hBB : Hid (Below w.heap.size w wB) := hidIt (HB.out.drew.trans (hbB.mono (by have := HB.out.size; simpa using this)))
          have hg : wB.cell? ⟨b, off + i * 2, none⟩ = some (.string s) ∧ wB.cell? ⟨b, off + i * 2 + 1, none⟩ = some (.int .i64 q) := by assumption
          obtain ⟨g0, g1⟩ := hg
          clear hbB hf
          go_wp2_with (fail)
          · have hq : (q != (sm : Int)) = true := by assumption
            go_ret
            rw [okL_false (logIs_cut (by rw [HN.out]; exact hin) (fun k => by have := HG.out.1 k; simp [this] at hq))]
            exact ⟨rfl, hBB.out⟩
          · have hq : (q != (sm : Int)) = false := by assumption
            have hq2 : q = (sm : Int) := by simpa using hq
            refine ⟨⟨i + 1, by simp, by rw [HPN.out sm hq2], by omega, hidIt (fun j hj => ?_), hBB.out⟩, by simp [intOf]; omega⟩
            rcases Nat.lt_or_ge j i with h' | h'
            · exact hG.out j h'
            · have : j = i := by omega
              subst this
              exact HG.out.2 hq2
      · have hin' : ¬ (i : Int) < (n : Int) := by omega
        have e5 : i = n := by omega
        subst e5
        go_wp2_with (fail)
        go_ret
        rw [okL_true ⟨by omega, fun j hj => hG.out j (by rw [HN.out] at hj; exact hj)⟩]
        exact ⟨rfl, HB.out⟩
end Go.Proofs.YtceddedlfdgbhaaGreatDoor.Lg
