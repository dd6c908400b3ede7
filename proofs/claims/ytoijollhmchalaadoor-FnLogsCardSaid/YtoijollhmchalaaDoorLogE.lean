/-
  DrawNoted and DrawSame: short lists of Lines of the call's own, and a text.
-/
import Derived.Test.YtoijollhmchalaaDoorLogD
namespace Go.Proofs.YtoijollhmchalaaDoor.Lg
open Go.ChangeShapes Go.WideShapes Go.ChangeAt Go.RowKit
open Sg Dr
set_option linter.unusedVariables false
theorem cur_drew {B : Nat} {w : World} {c : Nat} {a : Option Addr} {len cap : Nat} (h : Cur B w c a len cap) : Cur B w.drew c a len cap := h.drewN 1
theorem only_drew {c : Nat} {w w' : World} (h : Only c w.drew w') : Only c w w' := ⟨h.os, h.tape, h.output, h.size, h.block⟩
theorem wrap100 (x : Nat) (h : x < 2) : IntKind.i64.wrap (100 + (x : Int)) = 100 + (x : Int) := by
  rw [IntKind.wrap_i64]
  omega
set_option maxRecDepth 100000 in
set_option maxHeartbeats 8000000 in
theorem DrawNoted_any (a : Option Addr) (len cap : Nat) (w : World) (hc : Dr.Code w.heap.size w a len) (hl : len ≤ 4096) :
    Calls Tryd.prog 9 #[.slice a len cap] w fun e w' => ∃ (v : Value) (L : List Ln) (t : ByteArray), e = .returned (.tuple #[v, .string t]) ∧ Tame L ∧ Own w' w.heap.size v L ∧ Below w.heap.size w w' := by
  have HC := hidIt hc
  clear hc
  go_enter Tryd.func9, Tryd.ntmps9
  go_wp2_with (fail)
  refine (l1New_any _ a len cap _ (Nat.le_refl _) HC.out hl).mono ?_
  rintro e w1 ⟨c, rfl, hC1, hb1⟩
  have hh := hC1.here
  have C1 := hidIt hC1
  have B1 := hidIt hb1
  have hlt := hC1.lt
  clear hC1 hb1
  go_wp2_with (fail)
  refine (l4Draw_any _ c a len cap _ C1.out).mono ?_
  rintro e w2 ⟨v, L, rfl, hT, hO2, hC2, hY2⟩
  have HTm := hidIt hT
  have O2 := hidIt hO2
  have C2 := hidIt hC2
  have B2 := hidIt (B1.out.trans (hY2.below (B := w.heap.size) hh B1.out.size))
  have z1 := hidIt B1.out.size
  clear hT hO2 hC2 hY2
  go_wp2_with (fail)
  refine (l1Once_any _ c a len cap 30 _ (by decide) C2.out).mono ?_
  rintro e w3 ⟨bx, rfl, hC3, hY3⟩
  have O3 := hidIt (O2.out.only hY3 (.inl hlt))
  have C3 := hidIt hC3
  have B3 := hidIt (B2.out.trans (hY3.below (B := w.heap.size) hh B2.out.size))
  clear hC3 hY3
  cases bx with
  | false =>
    go_wp2_with (fail)
    refine (l3DrawText_any _ c a len cap _ C3.out).mono ?_
    rintro e w4 ⟨s, hs, rfl, hC4, hY4⟩
    have O4 := hidIt (O3.out.only hY4 (.inl hlt))
    have B4 := hidIt (B3.out.trans (hY4.below (B := w.heap.size) hh B3.out.size))
    clear hC4 hY4
    go_wp2_with (fail)
    go_ret2
    exact ⟨_, L, s, rfl, HTm.out, O4.out.mono z1.out, B4.out⟩
  | true =>
    have hmk : ∀ (x : Nat) (hx : x < 2) (w : World), (Instr.makeSlice 22 (.int .i64 (100 + (x : Int))) (.int .i64 (100 + (x : Int)))).run Tryd.prog w = .ok (.slice (some ⟨w.heap.size, 0, none⟩) (100 + x) (100 + x)) (w.alloc (.cells (madeCells #[.int .u8 0] (100 + x)) 5)) := by
      intro x hx w
      have := run_make_row' (P := Tryd.prog) 22 5 (.int .u8 0) 1 Tryd.underlying22 info8 rfl .i64 .i64 (100 + x) (by omega) (by omega) w
      rwa [show ((100 + x : Nat) : Int) = 100 + (x : Int) from by omega] at this
    have hcv : ∀ (x : Nat) (hx : x < 2) (w : World), (convert 22 9 (.slice (some ⟨w.heap.size, 0, none⟩) (100 + x) (100 + x))).run Tryd.prog (w.alloc (.cells (madeCells #[.int .u8 0] (100 + x)) 5)) = .ok (.string (zeroS (100 + x))) (w.alloc (.cells (madeCells #[.int .u8 0] (100 + x)) 5)) := fun x hx w => zero_back (100 + x) (by unfold maxLen; omega) w
    have HMK := hidIt hmk
    have HCV := hidIt hcv
    clear hmk hcv
    go_wp2_with (fail)
    go_region_with (first | (go_at_call 29; refine (l1Below_any _ c a len cap 2 _ (by decide) (cur_drew C3.out)).mono ?_; rintro e w4 ⟨x, x0, x1, rfl, hC4, hY4⟩; obtain ⟨xn, rfl⟩ := Int.eq_ofNat_of_zero_le x0; have hwr := wrap100 xn (by omega); have hmk := HMK.out xn (by omega) w4; have hcv := HCV.out xn (by omega) w4; generalize zeroS (100 + xn) = zs at hcv))
    all_goals
      have hY5 := only_drew hY4
      have O4 := hidIt ((O3.out.only hY5 (.inl hlt)).alloc (.cells (madeCells #[.int .u8 0] (100 + xn)) 5))
      have B4 := hidIt ((B3.out.trans (hY5.below (B := w.heap.size) hh B3.out.size)).alloc (by have := B3.out.size; have := hY5.size; omega) (.cells (madeCells #[.int .u8 0] (100 + xn)) 5))
      clear hC4 hY4 hmk hcv hY5
      go_wp2_with (fail)
      go_ret2
      exact ⟨_, L, zs, rfl, HTm.out, O4.out.mono z1.out, B4.out⟩
theorem Own.keptB {w w' : World} {b B : Nat} {v : Value} {L : List Ln} (h : Own w b v L) (hlt : ∀ g, v.ownBlock = some g → g < B) (k : Below B w w') : Own w' b v L := by
  refine ⟨h.1, ?_⟩
  rcases h.2 with h0 | ⟨g, cap, cur, rfl, hb, hg, rest⟩
  · exact .inl h0
  · refine .inr ⟨g, cap, cur, rfl, hb, ?_, rest⟩
    rw [k.block g (hlt g rfl)]
    exact hg
set_option maxRecDepth 100000 in
set_option maxHeartbeats 8000000 in
theorem DrawSame_any (a : Option Addr) (len cap : Nat) (w : World) (hc : Dr.Code w.heap.size w a len) (hl : len ≤ 4096) :
    Calls Tryd.prog 11 #[.slice a len cap] w fun e w' => ∃ (v u : Value) (L M : List Ln), e = .returned (.tuple #[v, u]) ∧ Own w' w.heap.size v L ∧ Own w' w.heap.size u M ∧ Below w.heap.size w w' := by
  have HC := hidIt hc
  clear hc
  obtain ⟨i0, hi, hz0, hz1, hz2⟩ := info_parts infoLn
  go_enter Tryd.func11, Tryd.ntmps11
  go_wp2_with (fail)
  refine (l1New_any _ a len cap _ (Nat.le_refl _) HC.out hl).mono ?_
  rintro e w1 ⟨c, rfl, hC1, hb1⟩
  have hh := hC1.here
  have C1 := hidIt hC1
  have B1 := hidIt hb1
  have hlt := hC1.lt
  clear hC1 hb1
  go_wp2_with (fail)
  refine (l4Draw_any _ c a len cap _ C1.out).mono ?_
  rintro e w2 ⟨v, L, rfl, hT, hO2, hC2, hY2⟩
  have HTm := hidIt hT
  have O2 := hidIt hO2
  have C2 := hidIt hC2
  have B2 := hidIt (B1.out.trans (hY2.below (B := w.heap.size) hh B1.out.size))
  have z1 := hidIt B1.out.size
  clear hT hO2 hC2 hY2
  go_wp2_with (fail)
  refine (l1Once_any _ c a len cap 2 _ (by decide) C2.out).mono ?_
  rintro e w3 ⟨bx, rfl, hC3, hY3⟩
  have O3 := hidIt (O2.out.only hY3 (.inl hlt))
  have C3 := hidIt hC3
  have B3 := hidIt (B2.out.trans (hY3.below (B := w.heap.size) hh B2.out.size))
  have hlt3 := hC3.lt
  clear hC3 hY3
  cases bx with
  | false =>
    go_wp2_with (fail)
    refine (l4Draw_any _ c a len cap _ C3.out).mono ?_
    rintro e w4 ⟨u, M, rfl, hT4, hO4, hC4, hY4⟩
    have O4 := hidIt (O3.out.only hY4 (.inl hlt))
    have P4 := hidIt (hO4.mono B3.out.size)
    have B4 := hidIt (B3.out.trans (hY4.below (B := w.heap.size) hh B3.out.size))
    clear hC4 hY4 hT4 hO4
    go_wp2_with (fail)
    go_ret2
    exact ⟨_, _, L, M, rfl, O4.out.mono z1.out, P4.out, B4.out⟩
  | true =>
    obtain ⟨xa, ca, rfl, hca, hcm, _, hna, _⟩ := O3.out.form
    have BA : Hid (∀ g, (Value.slice xa L.length ca).ownBlock = some g → g < w3.heap.size) := hidIt (fun g hg => (World.ownsRow.lt O3.out g hg).2)
    have hlen := HTm.out.1
    have hp : (0 : Int) < (L.length : Int) + 1 := by omega
    have hcm2 : ca ≤ 9223372036854775807 := hcm
    clear hcm
    go_wp2_with (fail)
    refine (l1Below_any _ c a len cap _ _ hp (C3.out.kept ((Below.refl (c + 1) w3).alloc (by omega) _))).mono ?_
    rintro e w4 ⟨x, x0, x1, rfl, hC4, hY4⟩
    obtain ⟨k, rfl⟩ := Int.eq_ofNat_of_zero_le x0
    have hk : k ≤ L.length := by omega
    have N4 := hidIt ((Own.new w3).only hY4 (.inl hlt3))
    have O4 := hidIt ((O3.out.alloc _).only hY4 (.inl hlt))
    have C4 := hidIt hC4
    have B4 := hidIt ((B3.out.alloc B3.out.size _).trans (hY4.below (B := w.heap.size) hh (by have := B3.out.size; simp; omega)))
    have z4 : w3.heap.size < w4.heap.size := by have := hY4.size; simp at this; omega
    clear hC4 hY4
    have R4 : Hid (Rd w4 xa (L.take k)) := hidIt (by obtain ⟨a', c', e', _, _, r, _⟩ := O4.out.form; cases e'; exact r.take k)
    have hTk := HTm.out.take k
    obtain ⟨pv, hpv, hpl⟩ := hTk.head
    have hlk : (L.take k).length = k := by rw [List.length_take]; omega
    have CN := hidIt (fun v s w h hb => spec_l4Note w3.heap.size v (L.take k) pv s w h hb (by rw [hlk]; omega) hpv hpl)
    have HLK := hidIt hlk
    have hkc : (k : Int) ≤ (ca : Int) := by omega
    clear hTk hpv hpl hlk x1 x0
    -- what is behind the append, whatever the source
    cases xa with
    | none =>
      have hc0 := hna rfl
      subst hc0
      have e0 := R4.out.none_nil
      have hk0 : k = 0 := by have := HLK.out; rw [e0] at this; simpa using this.symm
      subst hk0
      clear hna e0
      go_wp2_with (first
        | (at_builtin; refine wpList_append_own_none rfl _ _ 24 rfl w3.heap.size 36 i0 2 Tryd.underlying24 hi _ _ _ rfl N4.out rfl ?_)
        | fail)
      refine (l3DrawText_any _ c a len cap _ C4.out).mono ?_
      rintro e w5 ⟨s, hs, rfl, hC5, hY5⟩
      have N5 := hidIt (N4.out.only hY5 (.inl hlt3))
      have O5 := hidIt (O4.out.only hY5 (.inl hlt))
      have B5 := hidIt (B4.out.trans (hY5.below (B := w.heap.size) hh B4.out.size))
      have z5 := hY5.size
      clear hC5 hY5
      go_wp2_with (fail)
      refine (CN.out _ s _ N5.out (by omega)).mono ?_
      rintro e w6 ⟨u, rfl, hO6, hb6⟩
      have P6 := hidIt hO6
      have B6 := hidIt (B5.out.trans (hb6.mono B3.out.size))
      have O6 := hidIt (O5.out.keptB BA.out hb6)
      clear hO6 hb6
      go_wp2_with (fail)
      go_ret2
      exact ⟨_, _, L, _, rfl, O6.out.mono z1.out, P6.out.mono B3.out.size, B6.out⟩
    | some xx =>
      have HK := hidIt hk
      clear hna hk
      go_wp2_with (first
        | (at_builtin; refine wpList_append_own _ rfl _ _ 24 rfl w3.heap.size 36 i0 (.agg #[.string ByteArray.empty, .int .i64 0]) 2 24 Tryd.underlying24 hi hz0 hz1 hz2 rfl (by decide) _ _ _ rfl N4.out xx k ca (lcells (L.take k)) rfl (by rw [lcells_length, HLK.out]) R4.out.cells (lcells_one _) (by have := HK.out; unfold maxLen; simp; omega) (by have := HK.out; simp; omega) (by omega) ?_)
        | fail)
      intro v' w5 hown hgrow _
      have N5 : Hid (Own w5 w3.heap.size v' (L.take k)) := hidIt (by unfold Own; rw [lcells_nil, List.nil_append] at hown; simpa [HLK.out] using hown)
      have b45 : Below w3.heap.size w4 w5 := (Below.refl w3.heap.size w4).grown hgrow (by omega) (fun k hk => by simp [Value.ownBlock] at hk; omega)
      have O5 := hidIt (O4.out.keptB BA.out b45)
      have C5 := hidIt (C4.out.kept (b45.mono (by omega)))
      have B5 := hidIt (B4.out.trans (b45.mono B3.out.size))
      have z5 := b45.size
      clear hown hgrow b45
      go_wp2_with (fail)
      refine (l3DrawText_any _ c a len cap _ C5.out).mono ?_
      rintro e w6 ⟨s, hs, rfl, hC6, hY6⟩
      have N6 := hidIt (N5.out.only hY6 (.inl hlt3))
      have O6 := hidIt (O5.out.only hY6 (.inl hlt))
      have B6 := hidIt (B5.out.trans (hY6.below (B := w.heap.size) hh B5.out.size))
      have z6 := hY6.size
      clear hC6 hY6
      go_wp2_with (fail)
      refine (CN.out _ s _ N6.out (by omega)).mono ?_
      rintro e w7 ⟨u, rfl, hO7, hb7⟩
      have P7 := hidIt hO7
      have B7 := hidIt (B6.out.trans (hb7.mono B3.out.size))
      have O7 := hidIt (O6.out.keptB BA.out hb7)
      clear hO7 hb7
      go_wp2_with (fail)
      go_ret2
      exact ⟨_, _, L, _, rfl, O7.out.mono z1.out, P7.out.mono B3.out.size, B7.out⟩
end Go.Proofs.YtoijollhmchalaaDoor.Lg
