/-
  What the drawing functions of chapter 4 answer, whatever the bytes: a short list of Lines of the call's own; they write into their own cursor alone.
-/
import Derived.Test.YtoijollhmchalaaDoorLogM
import Derived.Test.YtoijollhmchalaaDoorSignD
import Derived.Deep.OwnRows
namespace Go.Proofs.YtoijollhmchalaaDoor.Lg
open Go.ChangeShapes Go.WideShapes Go.ChangeAt Go.RowKit
open Sg Dr
set_option linter.unusedVariables false
/-- A short list whose Sums are no greater than a number may be. -/
def Tame (L : List Ln) : Prop := L.length ≤ 6 ∧ ∀ i, i < L.length → 0 ≤ (lat L i).2 ∧ (lat L i).2 ≤ 1099511627776
theorem Tame.head {L : List Ln} (h : Tame L) : ∃ pv : Nat, headL L = (pv : Int) ∧ pv ≤ 1099511627776 := by
  cases hn : L.length with
  | zero =>
    have e : L = [] := List.eq_nil_of_length_eq_zero hn
    subst e
    exact ⟨0, rfl, by omega⟩
  | succ k =>
    have := h.2 k (by omega)
    exact ⟨(lat L k).2.toNat, by rw [headL_len hn]; omega, by omega⟩
theorem Tame.take {L : List Ln} (h : Tame L) (n : Nat) : Tame (L.take n) :=
  ⟨by rw [List.length_take]; have := h.1; omega, fun i hi => by
    rw [List.length_take] at hi
    rw [lat_take (by omega)]
    exact h.2 i (by omega)⟩
theorem tame_of_log {L : List Ln} (h : LogIs L) (hl : L.length ≤ 6) : Tame L := by
  refine ⟨hl, fun i hi => ?_⟩
  have := (h.2 i hi).2
  have h2 := sumN_lt (prev L i) (lat L i).1
  rw [this]
  omega
theorem tame_set {L : List Ln} {i : Nat} {x : Ln} (h : Tame L) (hi : i < L.length) (h0 : 0 ≤ x.2) (h1 : x.2 ≤ 1099511627776) : Tame (L.set i x) := by
  refine ⟨by rw [List.length_set]; exact h.1, fun j hj => ?_⟩
  rw [List.length_set] at hj
  rw [lat_set hi]
  split
  · exact ⟨h0, h1⟩
  · exact h.2 j hj
/-- A log with one Line more is a log. -/
theorem log_more {L : List Ln} {t : ByteArray} (h : LogIs L) (hl : L.length < 300) (ht : t.size ≤ 100) : LogIs (L ++ [(t, (sumN (prev L L.length) t : Int))]) := by
  have hp : ∀ i, i ≤ L.length → prev (L ++ [(t, (sumN (prev L L.length) t : Int))]) i = prev L i := by
    intro i hi
    cases i with
    | zero => rfl
    | succ k => rw [prev_succ, prev_succ, lat_append_left (by omega)]
  refine ⟨by rw [List.length_append]; simp; omega, fun i hi => ?_⟩
  rw [List.length_append] at hi
  simp at hi
  unfold Good
  rw [hp i (by omega)]
  rcases Nat.lt_or_ge i L.length with h' | h'
  · rw [lat_append_left h']
    exact h.2 i h'
  · have e : i = L.length := by omega
    subst e
    rw [lat_append_at]
    exact ⟨ht, rfl⟩
theorem log_nil : LogIs [] := ⟨by simp, fun i hi => by simp at hi⟩
theorem only_below {c : Nat} {w0 w w' : World} (o : Only c w0 w) (k : Below w0.heap.size w w') : Only c w0 w' :=
  ⟨k.os.trans o.os, k.tape.trans o.tape, k.output.trans o.output, Nat.le_trans o.size k.size, fun i hi hc => (k.block i hi).trans (o.block i hi hc)⟩
theorem note_log {L : List Ln} {t : ByteArray} (h : LogIs L) (hl : L.length ≤ 5) (ht : t.size ≤ 6) : LogIs (noteL L (prev L L.length) t) ∧ (noteL L (prev L L.length) t).length = L.length + 1 := by
  rw [(note_on (by omega)).1]
  exact ⟨log_more h (by omega) (by omega), by simp⟩
/-- n bytes 0, as a text. -/
def zeroS (n : Nat) : ByteArray := ⟨(List.replicate n (0 : UInt8)).toArray⟩
theorem madeZero (n : Nat) (w : World) : Bs (w.alloc (.cells (madeCells #[.int .u8 0] n) 5)) w.heap.size (.slice (some ⟨w.heap.size, 0, none⟩) n n) (List.replicate n 0) ∨ ¬ n ≤ maxLen := by
  by_cases hn : n ≤ maxLen
  · left
    unfold Bs
    rw [List.length_replicate]
    refine ⟨by simp, .inr ⟨w.heap.size, n, _, rfl, Nat.le_refl _, heap_alloc_new w _, Nat.le_refl _, hn, by simp [size_madeCells], ?_⟩⟩
    rw [toList_madeCells_one]
    simp
  · exact .inr hn
theorem zero_back (n : Nat) (hn : n ≤ maxLen) (w : World) : (convert 22 9 (.slice (some ⟨w.heap.size, 0, none⟩) n n)).run Tryd.prog (w.alloc (.cells (madeCells #[.int .u8 0] n) 5)) = .ok (.string (zeroS n)) (w.alloc (.cells (madeCells #[.int .u8 0] n) 5)) := by
  rcases madeZero n w with h | h
  · exact h.back
  · exact absurd hn h
set_option maxRecDepth 100000 in
set_option maxHeartbeats 8000000 in
theorem l4Draw_any (B c : Nat) (a : Option Addr) (len cap : Nat) (w : World) (hC : Cur B w c a len cap) :
    Calls Tryd.prog 27 #[.pointer (some ⟨c, 0, none⟩)] w fun e w' => ∃ (v : Value) (L : List Ln), e = .returned v ∧ Tame L ∧ Own w' w.heap.size v L ∧ Cur B w' c a len cap ∧ Only c w w' := by
  have hlt := hC.lt
  have HC := hidIt hC
  clear hC
  go_enter Tryd.func27, Tryd.ntmps27
  go_wp2_with (fail)
  refine (l1Below_any B c a len cap 6 _ (by decide) (HC.out.kept ((Below.refl (c + 1) w).alloc (by omega) _))).mono ?_
  rintro e w1 ⟨x, x0, x1, rfl, hC1, hO1⟩
  obtain ⟨xn, rfl⟩ := Int.eq_ofNat_of_zero_le x0
  have S1 := hidIt ((Own.new w).only hO1 (.inl hlt))
  have C1 := hidIt hC1
  have O1 := hidIt (((Only.refl c w).alloc _).trans hO1)
  clear hC1 hO1 HC
  go_wp2_with (fail)
  go_loopw [3, 4] (fun y z wx => ∃ (n : Nat) (L : List Ln), z = .int .i64 n ∧ n + L.length ≤ 5 ∧ Hid (LogIs L) ∧ Own wx w.heap.size y L ∧ Cur B wx c a len cap ∧ Only c w wx) (fun _ z _ => (intOf z).toNat)
  case atStart => exact ⟨xn, [], rfl, by simp; omega, hidIt log_nil, S1.out, C1.out, O1.out⟩
  case round =>
    obtain ⟨n, L, rfl, hn, hG, hS, hCr, hOr⟩ := hrel
    have HS := hidIt hS
    have HCr := hidIt hCr
    have HOr := hidIt hOr
    clear hS hCr hOr S1 C1 O1
    by_cases h0 : 0 < n
    · have h0' : (0 : Int) < n := by omega
      have h0'' : (n : Int) ≤ 6 := by omega
      go_wp2_with (fail)
      refine (l3DrawText_any B c a len cap _ HCr.out).mono ?_
      rintro e w2 ⟨s, hs, rfl, hC2, hO2⟩
      have S2 := hidIt (HS.out.only hO2 (.inl hlt))
      have C2 := hidIt hC2
      have O2 := hidIt (HOr.out.trans hO2)
      have hpl := prev_lt (i := L.length) (fun j hj => hG.out.2 j hj)
      have CN := hidIt (fun v w h hb => spec_l4Note w.heap.size v L (prev L L.length) s w h hb (by omega) (head_prev hG.out) (by omega))
      have CN' := hidIt (fun base v w h hb => spec_l4Note base v L (prev L L.length) s w h hb (by omega) (head_prev hG.out) (by omega))
      have HNL := hidIt (note_log hG.out (by omega) hs)
      clear hC2 hO2 hpl CN
      go_wp2_with (fail)
      refine (CN'.out w.heap.size _ _ S2.out O2.out.size).mono ?_
      rintro e w3 ⟨v3, rfl, hO3, hb3⟩
      have S3 := hidIt hO3
      have C3 := hidIt (C2.out.kept (hb3.mono (by omega)))
      have O3 := hidIt (only_below O2.out hb3)
      clear hO3 hb3
      go_wp2_with (fail)
      refine ⟨⟨n - 1, _, ?_, by rw [HNL.out.2]; omega, hidIt HNL.out.1, S3.out, C3.out, O3.out⟩, by simp [intOf]; omega⟩
      congr 1
      omega
    · have h0' : ¬ (0 : Int) < n := by omega
      have hT := hidIt (tame_of_log hG.out (by omega))
      go_wp2_with (fail)
      refine (l1Once_any B c a len cap 6 _ (by decide) HCr.out).mono ?_
      rintro e w4 ⟨bx, rfl, hC4, hO4⟩
      have S4 := hidIt (HS.out.only hO4 (.inl hlt))
      have C4 := hidIt hC4
      have O4 := hidIt (HOr.out.trans hO4)
      clear hC4 hO4 HS HCr HOr
      obtain ⟨xa, ca, rfl, hca, hcm, hR, hna, hsm⟩ := S4.out.form
      cases bx with
      | false =>
        go_wp2_with (fail)
        go_ret
        exact ⟨_, L, rfl, hT.out, S4.out, C4.out, O4.out⟩
      | true =>
        by_cases hl : L.length = 0
        · have hn0 : ¬ (0 : Int) < (L.length : Int) := by omega
          clear hl
          go_wp2_with (fail)
          go_ret
          exact ⟨_, L, rfl, hT.out, S4.out, C4.out, O4.out⟩
        · have hn0 : (0 : Int) < (L.length : Int) := by omega
          obtain ⟨b0, o0, e0, _⟩ := hR.cell 0 (by omega)
          obtain ⟨g, e1, hg1, hg2⟩ := hsm _ e0
          subst e0
          cases e1
          clear hna hsm hR hcm
          have hlen := hidIt hl
          clear hl
          go_wp2_with (fail)
          refine (l1Below_any B c a len cap _ _ hn0 C4.out).mono ?_
          rintro e w5 ⟨x5, x50, x51, rfl, hC5, hO5⟩
          obtain ⟨i, rfl⟩ := Int.eq_ofNat_of_zero_le x50
          have hi : i < L.length := by omega
          have S5 := hidIt (S4.out.only hO5 (.inl hlt))
          have C5 := hidIt hC5
          have O5 := hidIt (O4.out.trans hO5)
          clear hC5 hO5
          go_wp2_with (fail)
          refine (l1Below_any B c a len cap 3 _ (by decide) C5.out).mono ?_
          rintro e w6 ⟨x6, x60, x61, rfl, hC6, hO6⟩
          have S6 := hidIt (S5.out.only hO6 (.inl hlt))
          have C6 := hidIt hC6
          have O6 := hidIt (O5.out.trans hO6)
          clear hC6 hO6 S5 C5 O5 S4 C4 O4
          obtain ⟨c0, c1, f0, f1⟩ := S6.out.at hi
          have hg := hG.out.2 i hi
          have hs100 := hg.1
          have hsum : 0 ≤ (lat L i).2 ∧ (lat L i).2 < 2147483647 := by
            have h2 := sumN_lt (prev L i) (lat L i).1
            rw [hg.2]
            omega
          generalize hx : lat L i = xl at c0 c1 hs100 hsum
          have HX := hidIt hx
          clear hx hg
          obtain ⟨s, q⟩ := xl
          simp only at hs100 hsum
          have HSm := hidIt hsum
          rcases (show x6 = 0 ∨ x6 = 1 ∨ x6 = 2 by omega) with e6 | e6 | e6
          · subst e6
            have hq1 : (⟨#[98]⟩ : ByteArray).size = 1 := rfl
            have hq2 : ¬ 9223372036854775807 < s.size + 1 := by omega
            have S7 := hidIt (S6.out.text hi (s ++ ⟨#[98]⟩))
            clear hsum
            go_wp2_with (fail)
            go_ret
            refine ⟨_, L.set i (s ++ (⟨#[98]⟩ : ByteArray), (lat L i).2), rfl, tame_set hT.out hi (hT.out.2 i hi).1 (hT.out.2 i hi).2, S7.out, C6.out.kept ((Below.refl (c + 1) w6).setCell (by simp; omega) _), O6.out.setNew (by simpa using hg1) _⟩
          · subst e6
            have S7 := hidIt (S6.out.sum hi (q + 1))
            have hq0 : -9223372036854775808 ≤ q + 1 := by omega
            have hq1 : q + 1 ≤ 9223372036854775807 := by omega
            go_wp2_with (fail)
            go_ret
            refine ⟨_, L.set i ((lat L i).1, q + 1), rfl, tame_set hT.out hi (by simp only; omega) (by simp only; have := HSm.out; omega), S7.out, C6.out.kept ((Below.refl (c + 1) w6).setCell (by simp; omega) _), O6.out.setNew (by simpa using hg1) _⟩
          · subst e6
            have hmk : ∀ w : World, (Instr.makeSlice 22 (.int .i64 101) (.int .i64 101)).run Tryd.prog w = .ok (.slice (some ⟨w.heap.size, 0, none⟩) 101 101) (w.alloc (.cells (madeCells #[.int .u8 0] 101) 5)) := run_make_row' (P := Tryd.prog) 22 5 (.int .u8 0) 1 Tryd.underlying22 info8 rfl .i64 .i64 101 (by decide) (by decide)
            have hcv := zero_back 101 (by decide)
            have S7 := hidIt ((S6.out.text hi (zeroS 101)).alloc (.cells (madeCells #[.int .u8 0] 101) 5))
            generalize zeroS 101 = zs at hcv S7
            have hb0 : b0 < w6.heap.size := (World.ownsRow.lt S6.out b0 rfl).2
            clear hsum
            go_wp2_with (fail)
            go_ret
            refine ⟨_, L.set i (zs, (lat L i).2), rfl, tame_set hT.out hi (hT.out.2 i hi).1 (hT.out.2 i hi).2, S7.out, C6.out.kept (((Below.refl (c + 1) w6).setCell (by simp; omega) _).alloc (by simp [World.setCell]; omega) _), (O6.out.setNew (by simpa using hg1) _).alloc _⟩
end Go.Proofs.YtoijollhmchalaaDoor.Lg
