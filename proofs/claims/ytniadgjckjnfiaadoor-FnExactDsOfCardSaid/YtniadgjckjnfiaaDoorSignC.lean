/-
  Challenge of the program and of the specification: the challenge of two Points and a text; -1 when one is none.
-/
import Derived.Test.YtniadgjckjnfiaaDoorSignH
import Derived.Test.YtniadgjckjnfiaaDoorCurveS
namespace Go.Proofs.YtniadgjckjnfiaaDoor.Sg
open Go.ChangeShapes Go.WideShapes Go.ChangeAt Go.RowKit
open Cv Cu
theorem ok_le {a b : Nat} (h : okN (a, b) = true) : a ≤ 1099511627776 ∧ b ≤ 1099511627776 := by
  have := ok_el h
  unfold El at this
  simp only at this
  omega
theorem hrun_all (a b s : ByteArray) : hrun (hrun (hrun 17 (nums a)) (nums b)) (nums s) = hrun 17 (nums (a ++ b ++ s)) := by
  rw [hrun_two, hrun_two, ByteArray.append_assoc]
set_option maxRecDepth 100000 in
set_option maxHeartbeats 4000000 in
theorem impl_Challenge_yes (r1 r2 k1 k2 : Nat) (s : ByteArray) (w : World) (hr : okN (r1, r2) = true) (hk : okN (k1, k2) = true) (hs : s.size ≤ 9223372036854775807) (ht : Tab w) :
    Calls Tryd.prog 51 #[.agg #[.int .i64 r1, .int .i64 r2], .agg #[.int .i64 k1, .int .i64 k2], .string s] w fun e w' => e = .returned (.int .i64 (chN r1 r2 k1 k2 s)) ∧ Below w.heap.size w w' := by
  have cr := impl_PointOk r1 r2
  rw [okI_cast, hr] at cr
  have ck := impl_PointOk k1 k2
  rw [okI_cast, hk] at ck
  have CR := hidIt cr
  have CK := hidIt ck
  have HT := hidIt ht
  have htl := ht.lt
  have br := ok_le hr
  have bk := ok_le hk
  have ec : ((chN r1 r2 k1 k2 s : Nat) : Int) = (hend (hrun (hrun (hrun 17 (nums (ptS r1 r2))) (nums (ptS k1 k2))) (nums s)) : Int) % 2549 := by
    rw [hrun_all]; unfold chN hashN; omega
  rw [ec]
  clear ec cr ck hr hk ht
  go_enter Tryd.func51, Tryd.ntmps51
  go_wp2_with (fail)
  refine (CR.out _).mono ?_
  rintro e w1 ⟨rfl, hb1⟩
  obtain ⟨hc1, hf1⟩ := bcell hb1
  have z1 : w.heap.size + 1 < w1.heap.size := by have := hb1.size; simp at this; omega
  have z0 : w.heap.size < w.heap.size + 1 + 1 := by omega
  go_wp2_with (fail)
  refine (CK.out _).mono ?_
  rintro e w2 ⟨rfl, hb2⟩
  obtain ⟨hc2, hf2⟩ := bcell hb2
  have z2 : w.heap.size + 1 < w2.heap.size := by have := hb2.size; omega
  go_wp2_with (fail)
  refine (newHasher_any _).mono ?_
  rintro e w3 ⟨rfl, hb3⟩
  have z3 : w.heap.size + 1 < w3.heap.size := by have := hb3.size; omega
  have B3 : Below w.heap.size w w3 := (((((Below.refl w.heap.size w).alloc (Nat.le_refl _) _).alloc (by simp) _).trans (hb1.mono (B' := w.heap.size) (by simp; omega))).trans (hb2.mono (B' := w.heap.size) (by omega))).trans (hb3.mono (B' := w.heap.size) (by omega))
  have R3 : w3.cell? ⟨w.heap.size, 0, none⟩ = some (.int .i64 r1) := by rw [hb3.cell (by simp; omega), hc2 _ _ (by omega), hc1 _ _ (by simp; omega)]; simp
  have R4 : w3.cell? ⟨w.heap.size, 1, none⟩ = some (.int .i64 r2) := by rw [hb3.cell (by simp; omega), hc2 _ _ (by omega), hc1 _ _ (by simp; omega)]; simp
  have K3 : w3.cell? ⟨w.heap.size + 1, 0, none⟩ = some (.int .i64 k1) := by rw [hb3.cell (by simp; omega), hc2 _ _ (by omega), hc1 _ _ (by simp)]; simp
  have K4 : w3.cell? ⟨w.heap.size + 1, 1, none⟩ = some (.int .i64 k2) := by rw [hb3.cell (by simp; omega), hc2 _ _ (by omega), hc1 _ _ (by simp)]; simp
  have HB3 := hidIt B3
  have HT3 := hidIt (HT.out.kept B3)
  clear hb1 hb2 hb3 hc1 hf1 hc2 hf2 B3
  have z4 : w.heap.size < w3.heap.size := by omega
  have z5 : ¬ w.heap.size = w3.heap.size := by omega
  have z6 : ¬ w.heap.size + 1 = w3.heap.size := by omega
  have z7 : w.heap.size < w3.heap.size + 1 := by omega
  have z8 : w.heap.size + 1 < w3.heap.size + 1 := by omega
  have HK3 := hidIt (And.intro K3 K4)
  go_wp2_with (fail)
  refine (point_hash w3.heap.size 17 r1 r2 _ (One.newAt rfl) (by omega) br.1 br.2 HT3.out.old (by omega)).mono ?_
  rintro e w4 ⟨rfl, hO4, hB4⟩
  have HO4 := hidIt hO4
  have HB4 := hidIt hB4
  have K5 := hB4.cell (p := ⟨w.heap.size + 1, 0, none⟩) (by simp; omega) (by simp; omega)
  have K6 := hB4.cell (p := ⟨w.heap.size + 1, 1, none⟩) (by simp; omega) (by simp; omega)
  rw [World.cell?_alloc_old _ _ _ (by simp; omega)] at K5 K6
  rw [K3] at K5
  rw [K4] at K6
  have y4 : w3.heap.size < w4.heap.size := hO4.lt
  have HT4 := hidIt (HT3.out.old.only hB4 (by omega))
  clear hO4 hB4 K3 K4 R3 R4
  go_wp2_with (fail)
  refine (point_hash w3.heap.size _ k1 k2 _ HO4.out (hrun_lt _ _ (by omega)) bk.1 bk.2 HT4.out (by omega)).mono ?_
  rintro e w5 ⟨rfl, hO5, hB5⟩
  have HO5 := hidIt hO5
  have HB5 := hidIt hB5
  clear hO5 hB5 K5 K6
  go_wp2_with (fail)
  refine (text_any w3.heap.size _ s _ HO5.out (hrun_lt _ _ (hrun_lt _ _ (by omega))) hs).mono ?_
  rintro e w6 ⟨rfl, hO6, hB6⟩
  have hl := hrun_lt (nums s) _ (hrun_lt (nums (ptS k1 k2)) _ (hrun_lt (nums (ptS r1 r2)) 17 (by omega)))
  have hl2 := hend_lt _ hl
  have CE := hidIt (fun w => ended_any _ w hl)
  have HB6 := hidIt hB6
  generalize hg : hrun (hrun (hrun 17 (nums (ptS r1 r2))) (nums (ptS k1 k2))) (nums s) = g at hO6 CE hl2
  have HG := hidIt hg
  have c0 := hO6.c0
  have y6 := hO6.lt
  clear hg hl hO6 hB6
  have q0 : (0 : Int) ≤ (hend g : Int) := by omega
  have q1 : (hend g : Int) < 2147483647 := by omega
  go_wp2_with (fail)
  refine (CE.out _).mono ?_
  rintro e w7 ⟨rfl, hb7⟩
  go_wp2_with (fail)
  go_ret
  have y5 := HB5.out.size
  have b4 := (HB3.out.alloc (by omega) _).trans (HB4.out.below (B := w.heap.size) (by omega) (by simp; omega))
  have b6 := (b4.trans (HB5.out.below (B := w.heap.size) (by omega) (by omega))).trans (HB6.out.below (B := w.heap.size) (by omega) (by omega))
  refine ⟨?_, b6.trans (hb7.mono (by omega))⟩
  rw [HG.out]
  rfl
set_option maxRecDepth 100000 in
set_option maxHeartbeats 4000000 in
theorem impl_Challenge_no (r1 r2 k1 k2 : Int) (s : ByteArray) (w : World) (h : okI r1 r2 = false ∨ okI r1 r2 = true ∧ okI k1 k2 = false) :
    Calls Tryd.prog 51 #[.agg #[.int .i64 r1, .int .i64 r2], .agg #[.int .i64 k1, .int .i64 k2], .string s] w fun e w' => e = .returned (.int .i64 (-1)) ∧ Below w.heap.size w w' := by
  have cr := impl_PointOk r1 r2
  have ck := impl_PointOk k1 k2
  rcases h with h | ⟨h, h2⟩
  · rw [h] at cr
    have CR := hidIt cr
    clear cr ck h
    go_enter Tryd.func51, Tryd.ntmps51
    go_wp2_with (fail)
    refine (CR.out _).mono ?_
    rintro e w1 ⟨rfl, hb1⟩
    go_wp2_with (fail)
    go_ret
    exact ⟨rfl, (((Below.refl w.heap.size w).alloc (Nat.le_refl _) _).alloc (by simp) _).trans (hb1.mono (B' := w.heap.size) (by simp; omega))⟩
  · rw [h] at cr
    rw [h2] at ck
    have CR := hidIt cr
    have CK := hidIt ck
    clear cr ck h h2
    go_enter Tryd.func51, Tryd.ntmps51
    go_wp2_with (fail)
    refine (CR.out _).mono ?_
    rintro e w1 ⟨rfl, hb1⟩
    obtain ⟨hc1, hf1⟩ := bcell hb1
    have z1 : w.heap.size + 1 < w1.heap.size := by have := hb1.size; simp at this; omega
    go_wp2_with (fail)
    refine (CK.out _).mono ?_
    rintro e w2 ⟨rfl, hb2⟩
    go_wp2_with (fail)
    go_ret
    exact ⟨rfl, ((((Below.refl w.heap.size w).alloc (Nat.le_refl _) _).alloc (by simp) _).trans (hb1.mono (B' := w.heap.size) (by simp; omega))).trans (hb2.mono (by omega))⟩
end Go.Proofs.YtniadgjckjnfiaaDoor.Sg
