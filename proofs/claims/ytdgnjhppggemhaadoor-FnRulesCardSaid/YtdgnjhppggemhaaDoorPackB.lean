/-
  A text bent by the specification's drawing, whatever the signs: some text of at most two bytes more; it writes into its own cursor and new memory alone.
-/
import Derived.Test.YtdgnjhppggemhaaDoorNameB
namespace Go.Proofs.YtdgnjhppggemhaaDoor.Nm
open Go.ChangeShapes Go.WideShapes Go.ChangeAt Go.RowKit
open Dr
set_option maxRecDepth 100000 in
set_option maxHeartbeats 4000000 in
theorem l1Bend_sg (Bb c : Nat) (a : Option Addr) (len cap : Nat) (s sg : ByteArray) (w : World) (hC : Cur Bb w c a len cap) (hs : s.size ≤ 2000) (hg0 : 0 < sg.size) (hg1 : sg.size ≤ 1000) :
    Calls Tryd.prog 20 #[.pointer (some ⟨c, 0, none⟩), .string s, .string sg] w fun e w' => ∃ t : ByteArray, t.size ≤ 2002 ∧ e = .returned (.string t) ∧ Cur Bb w' c a len cap ∧ Only c w w' := by
  have hlt := hC.lt
  have HC := hidIt hC
  clear hC
  obtain ⟨i0, hi, hz0, hz1, hz2⟩ := info_parts info8
  obtain ⟨w1, v1, hcv, hb1, hrw1⟩ := bytes_new w s
  have HR1 := hidIt hrw1
  have C1 := hidIt (HC.out.kept (hb1.mono hlt))
  have O1 := hidIt (Only.of_below (c := c) hb1)
  clear hb1 hrw1 HC
  go_enter Tryd.func20, Tryd.ntmps20
  go_wp2_with (fail)
  refine (l1Below_any Bb c a len cap 3 _ (by decide) C1.out).mono ?_
  rintro e w2 ⟨x, x0, x1, rfl, hC2, hO2⟩
  obtain ⟨xn, rfl⟩ := Int.eq_ofNat_of_zero_le x0
  have HR2 := hidIt (HR1.out.only hO2 hlt)
  have C2 := hidIt hC2
  have O2 := hidIt (O1.out.trans hO2)
  clear hC2 hO2 HR1 C1 O1 hcv
  go_wp2_with (fail)
  go_loopw [7, 8] (fun y z wx => ∃ (n : Nat) (l : Bytes), z = .int .i64 n ∧ n ≤ 2 ∧ n + l.length ≤ 2002 ∧ Rw wx w.heap.size y l ∧ Cur Bb wx c a len cap ∧ Only c w wx) (fun _ z _ => (intOf z).toNat)
  case atStart => exact ⟨xn, bs s, rfl, by omega, by rw [bs_length]; omega, HR2.out, C2.out, O2.out⟩
  case round =>
    obtain ⟨n, l, rfl, hn2, hn, hS, hCr, hOr⟩ := hrel
    have HS := hidIt hS
    have HCr := hidIt hCr
    have HOr := hidIt hOr
    clear hS hCr hOr HR2 C2 O2
    by_cases h0 : 0 < n ∧ 0 < l.length
    · obtain ⟨h0n, h0l⟩ := h0
      have h1' : (0 : Int) < n := by omega
      have h2n : (n : Int) ≤ 2 := by omega
      obtain ⟨g, cp, hform, hcp, hgb, hbt⟩ : ∃ g cp, u7 = .slice (some ⟨g, 0, none⟩) l.length cp ∧ l.length ≤ cp ∧ w.heap.size ≤ g ∧ Bt wr g l := by
        rcases HS.out with ⟨_, e⟩ | h
        · rw [e] at h0l; simp at h0l
        · exact h
      subst hform
      have HT := hidIt hbt
      obtain ⟨m, hm⟩ : ∃ m, l.length = m := ⟨_, rfl⟩
      have HM := hidIt hm
      rw [hm] at hcp h0l hn ⊢
      clear hbt HS hm
      have h3' : (0 : Int) < (m : Int) := by omega
      go_wp2_with (fail)
      refine (l1Below_any Bb c a len cap (m : Int) _ h3' HCr.out).mono ?_
      rintro e w3 ⟨y, y0, y1, rfl, hC3, hO3⟩
      obtain ⟨k, rfl⟩ := Int.eq_ofNat_of_zero_le y0
      have HT3 := hidIt (HT.out.only hO3 (by omega))
      have C3 := hidIt hC3
      have O3 := hidIt (HOr.out.trans hO3)
      clear hC3 hO3 HT HCr HOr
      go_wp2_with (fail)
      refine (l1Below_any Bb c a len cap 4 _ (by decide) C3.out).mono ?_
      rintro e w4 ⟨z, z0, z1, rfl, hC4, hO4⟩
      have HT4 := hidIt (HT3.out.only hO4 (by omega))
      have C4 := hidIt hC4
      have O4 := hidIt (O3.out.trans hO4)
      clear hC4 hO4 HT3 C3 O3
      have hz : z = 0 ∨ z = 1 ∨ z = 2 ∨ z = 3 := by omega
      clear z0 z1
      have k0 : k < m := by omega
      have k1 : (k : Int) < (m : Int) := by omega
      have k2 : (k : Int) ≤ (cp : Int) := by omega
      rcases hz with rfl | rfl | rfl | rfl
      · go_wp2_with (fail)
        refine (l1Below_any Bb c a len cap (sg.size : Int) _ (by omega) C4.out).mono ?_
        rintro e w5 ⟨q, q0, q1, rfl, hC5, hO5⟩
        obtain ⟨j, rfl⟩ := Int.eq_ofNat_of_zero_le q0
        have HT5 := hidIt (HT4.out.only hO5 (by omega))
        have C5 := hidIt hC5
        have O5 := hidIt (O4.out.trans hO5)
        clear hC5 hO5 HT4 C4 O4
        have hj : j < sg.size := by omega
        have hjI : (j : Int) < (sg.size : Int) := by omega
        have c0 := HT5.out.cell k (by rw [HM.out]; exact k0)
        have f0 := HT5.out.free k (by rw [HM.out]; exact k0)
        go_wp2_with (fail)
        have hb := HT5.out.set (k := k) (by rw [HM.out]; exact k0) (sg[j])
        refine ⟨⟨n - 1, l.set k (sg[j]), ?_, by omega, by rw [List.length_set, HM.out]; omega, .inr ⟨g, cp, by rw [List.length_set, HM.out], by rw [List.length_set, HM.out]; omega, hgb, hb⟩, C5.out.kept ((Below.refl (c + 1) w5).setCell (by simp; omega) _), O5.out.setNew (by simpa using hgb) _⟩, by simp [intOf]; omega⟩
        congr 1
        omega
      · go_wp2_with (fail)
        refine ⟨⟨n - 1, l.take k, ?_, by omega, by rw [List.length_take]; omega, .inr ⟨g, cp, ?_, by rw [List.length_take]; omega, hgb, HT4.out.take k⟩, C4.out, O4.out⟩, by simp [intOf]; omega⟩
        · congr 1
          omega
        · rw [List.length_take, HM.out, Nat.min_eq_left (by omega)]
      · go_wp2_with (fail)
        have g1 : IntKind.i64.wrap ((k : Int) + 1) = (k : Int) + 1 := by rw [IntKind.wrap_i64]; omega
        have g2 : (0 : Int) ≤ (k : Int) + 1 := by omega
        have g3 : (k : Int) + 1 ≤ (m : Int) := by omega
        have g4 : (m : Int) ≤ (cp : Int) := by omega
        have HE := hidIt (own_drew (own_empty w4))
        have HTa := hidIt ((HT4.out.alloc (.cells #[] 5)).drew)
        have g5 : Hid (some g ≠ some w4.heap.size) := hidIt (fun e => by have := HT4.out.lt; cases e; omega)
        have HLk : Hid ((bcells ((l.drop 0).take k)).length = k * 1) := hidIt (by rw [List.length_map, List.length_take, List.length_drop, HM.out]; omega)
        have HLr : Hid ((bcells ((l.drop (k + 1)).take (m - (k + 1)))).length = (m - (k + 1)) * 1) := hidIt (by rw [List.length_map, List.length_take, List.length_drop, HM.out]; omega)
        by_cases hcpk : cp = k + 1
        · subst hcpk
          have g6 : (k : Int) ≤ (k : Int) + 1 := by omega
          have g7 : (m : Int) ≤ (k : Int) + 1 := by omega
          have HLz : Hid ((bcells []).length = 0 * 1) := hidIt rfl
          go_region_held3 (fun w' => True) (trivial)
            (first
              | (refine step_append_own (by rfl) (.tmp 47) (.tmp 50) 22 (by rfl) w4.heap.size 5 i0 (.int .u8 0) 1 1 Tryd.underlying22 hi hz0 hz1 hz2 rfl (by decide) (.slice (some ⟨w4.heap.size, 0, none⟩) 0 0) 0 (bcells []) (by simp [Act.eval]) HE.out ⟨g, 0, none⟩ k (k + 1) (bcells ((l.drop 0).take k)) (by simp [Act.eval]) HLk.out (HTa.out.news 0 k) (bcells_one _) (by unfold maxLen; omega) (by omega) (by simp) ?_; intro v5 w5 ho5 hg5)
              | (refine step_append_own (by rfl) (.tmp 51) (.tmp 55) 22 (by rfl) w4.heap.size 5 i0 (.int .u8 0) 1 1 Tryd.underlying22 hi hz0 hz1 hz2 rfl (by decide) v5 (0 + k) _ (by simp [Act.eval]) ho5 ⟨g, 0, none⟩ 0 0 (bcells []) (by simp [Act.eval]) HLz.out (fun j u hu => by simp at hu) (bcells_one _) (by unfold maxLen; omega) (by omega) (by have := hg5.size; simp at this; omega) ?_; intro v6 w6 ho6 hg6))
          have hB5 : Below w4.heap.size w4 w5 := (((Below.refl _ w4).alloc (Nat.le_refl _) _).drew).grown hg5 (by simp) (fun k hk => by cases hk; exact Nat.le_refl _)
          have hB6 := hidIt (hB5.grown hg6 hB5.size (fun k hk => (World.ownsRow.lt ho5 k hk).1))
          have HR6 := hidIt (Rw.of_own (rw_cells (a := (l.drop 0).take k) (b := []) ho6))
          clear ho5 hg5 ho6 hg6 hB5
          go_wp2_with (fail)
          refine ⟨⟨n - 1, _, ?_, by omega, ?_, HR6.out.mono O4.out.size, C4.out.kept (hB6.out.mono C4.out.lt), O4.out.trans (Only.of_below hB6.out)⟩, by simp [intOf]; omega⟩
          · congr 1
            omega
          · rw [List.length_append, List.length_take, List.length_drop, HM.out]
            simp
            omega
        · go_region_held3 (fun w' => True) (trivial)
            (first
              | (refine step_append_own (by rfl) (.tmp 47) (.tmp 50) 22 (by rfl) w4.heap.size 5 i0 (.int .u8 0) 1 1 Tryd.underlying22 hi hz0 hz1 hz2 rfl (by decide) (.slice (some ⟨w4.heap.size, 0, none⟩) 0 0) 0 (bcells []) (by simp [Act.eval]) HE.out ⟨g, 0, none⟩ k cp (bcells ((l.drop 0).take k)) (by simp [Act.eval]) HLk.out (HTa.out.news 0 k) (bcells_one _) (by unfold maxLen; omega) (by omega) (by simp) ?_; intro v5 w5 ho5 hg5)
              | (refine step_append_own (by rfl) (.tmp 51) (.tmp 55) 22 (by rfl) w4.heap.size 5 i0 (.int .u8 0) 1 1 Tryd.underlying22 hi hz0 hz1 hz2 rfl (by decide) v5 (0 + k) _ (by simp [Act.eval]) ho5 ⟨g, k + 1, none⟩ (m - (k + 1)) (cp - (k + 1)) (bcells ((l.drop (k + 1)).take (m - (k + 1)))) (by simp [Act.eval]) HLr.out ((HTa.out.grown hg5 g5.out).news (k + 1) _) (bcells_one _) (by unfold maxLen; omega) (by omega) (by have := hg5.size; simp at this; omega) ?_; intro v6 w6 ho6 hg6))
          have hB5 : Below w4.heap.size w4 w5 := (((Below.refl _ w4).alloc (Nat.le_refl _) _).drew).grown hg5 (by simp) (fun k hk => by cases hk; exact Nat.le_refl _)
          have hB6 := hidIt (hB5.grown hg6 hB5.size (fun k hk => (World.ownsRow.lt ho5 k hk).1))
          have HR6 := hidIt (Rw.of_own (rw_cells (a := (l.drop 0).take k) (b := (l.drop (k + 1)).take (m - (k + 1))) ho6))
          clear ho5 hg5 ho6 hg6 hB5
          go_wp2_with (fail)
          refine ⟨⟨n - 1, _, ?_, by omega, ?_, HR6.out.mono O4.out.size, C4.out.kept (hB6.out.mono C4.out.lt), O4.out.trans (Only.of_below hB6.out)⟩, by simp [intOf]; omega⟩
          · congr 1
            omega
          · rw [List.length_append, List.length_take, List.length_drop, HM.out]
            rw [List.length_take, List.length_drop, HM.out]
            omega
      · go_wp2_with (fail)
        have g3 : (k : Int) ≤ (m : Int) := by omega
        have g4 : (m : Int) ≤ (cp : Int) := by omega
        have g6 : ¬ cp = k := by omega
        have HE := hidIt (own_drew (own_empty w4))
        have HTa := hidIt ((HT4.out.alloc (.cells #[] 5)).drew)
        have g5 : Hid (some g ≠ some w4.heap.size) := hidIt (fun e => by have := HT4.out.lt; cases e; omega)
        have HLk : Hid ((bcells ((l.drop 0).take k)).length = k * 1) := hidIt (by rw [List.length_map, List.length_take, List.length_drop, HM.out]; omega)
        have HLr : Hid ((bcells ((l.drop k).take (m - k))).length = (m - k) * 1) := hidIt (by rw [List.length_map, List.length_take, List.length_drop, HM.out]; omega)
        go_region_held3 (fun w' => True) (trivial)
          (first
            | (refine step_append_own (by rfl) (.tmp 59) (.tmp 62) 22 (by rfl) w4.heap.size 5 i0 (.int .u8 0) 1 1 Tryd.underlying22 hi hz0 hz1 hz2 rfl (by decide) (.slice (some ⟨w4.heap.size, 0, none⟩) 0 0) 0 (bcells []) (by simp [Act.eval]) HE.out ⟨g, 0, none⟩ k cp (bcells ((l.drop 0).take k)) (by simp [Act.eval]) HLk.out (HTa.out.news 0 k) (bcells_one _) (by unfold maxLen; omega) (by omega) (by simp) ?_; intro v5 w5 ho5 hg5; have hB5 := hidIt (bend5 hg5); have HT5 := hidIt (HTa.out.grown hg5 g5.out); have HO5 := hidIt ho5; clear ho5 hg5)
            | (go_at_call 30; refine (l1Below_any Bb c a len cap (sg.size : Int) _ (by omega) (C4.out.kept (hB5.out.mono C4.out.lt))).mono ?_; rintro e w6 ⟨q, q0, q1, rfl, hC6, hO6⟩; obtain ⟨j, rfl⟩ := Int.eq_ofNat_of_zero_le q0; have hj6 : j < sg.size := (by omega); have hj7 : (j : Int) < (sg.size : Int) := (by omega); have HO6 := hidIt (own_only HO5.out hO6 (Nat.lt_of_lt_of_le hlt O4.out.size)); have HT6 := hidIt (HT5.out.only hO6 (by omega)); have C6 := hidIt hC6; have P6 := hidIt ((Only.of_below (c := c) hB5.out).trans hO6); clear hC6 hO6 HO5 HT5 hB5)
            | (refine step_append_own (by rfl) (.tmp 63) (.tmp 70) 22 (by rfl) w4.heap.size 5 i0 (.int .u8 0) 1 1 Tryd.underlying22 hi hz0 hz1 hz2 rfl (by decide) v5 (0 + k) _ (by simp [Act.eval]) (World.ownsRow.alloc HO6.out _) ⟨w6.heap.size, 0, none⟩ 1 1 (bcells [sg[j]]) (by simp [Act.eval]) rfl (one_new _ _) (bcells_one _) (by unfold maxLen; omega) (by omega) (by have := P6.out.size; simp; omega) ?_; intro v7 w7 ho7 hg7; have HT7 := hidIt ((HT6.out.alloc _).grown hg7 (far_own HO6.out HT4.out.lt)); have C7 := hidIt (cur_grown (C6.out.kept ((Below.refl _ _).alloc C6.out.lt _)) hg7 (own_far HO6.out (Nat.lt_of_lt_of_le hlt O4.out.size))); have P7 := hidIt (only_grown (P6.out.alloc _) hg7 (fun k hk => (World.ownsRow.lt HO6.out k hk).1)); clear HO6 HT6 C6 P6 hg7)
            | (refine step_append_own (by rfl) (.tmp 71) (.tmp 74) 22 (by rfl) w4.heap.size 5 i0 (.int .u8 0) 1 1 Tryd.underlying22 hi hz0 hz1 hz2 rfl (by decide) v7 (0 + k + 1) _ (by simp [Act.eval]) ho7 ⟨g, k, none⟩ (m - k) (cp - k) (bcells ((l.drop k).take (m - k))) (by simp [Act.eval]) HLr.out (HT7.out.news k _) (bcells_one _) (by unfold maxLen; omega) (by omega) P7.out.size ?_; intro v8 w8 ho8 hg8))
        have C8 := hidIt (cur_grown C7.out hg8 (own_far ho7 (Nat.lt_of_lt_of_le hlt O4.out.size)))
        have P8 := hidIt (only_grown P7.out hg8 (fun k hk => (World.ownsRow.lt ho7 k hk).1))
        have HR8 := hidIt (Rw.of_own (rw_cells (a := (l.drop 0).take k ++ [sg[j]]) (b := (l.drop k).take (m - k)) (rw_cells3 ho8)))
        clear ho7 hg8 ho8
        go_wp2_with (fail)
        refine ⟨⟨n - 1, _, ?_, by omega, ?_, HR8.out.mono O4.out.size, C8.out, O4.out.trans P8.out⟩, by simp [intOf]; omega⟩
        · congr 1
          omega
        · rw [List.length_append, List.length_append, List.length_take, List.length_drop, List.length_take, List.length_drop, HM.out, List.length_singleton]
          omega
    · have hcv := HS.out.back
      have hsz : (B l).size ≤ 2002 := by rw [B_size]; omega
      generalize B l = t at hcv hsz
      by_cases h1 : 0 < n
      · have h1' : (0 : Int) < n := by omega
        have hl0 : l.length = 0 := by omega
        have hform : ∃ a' c', u7 = .slice a' 0 c' := by
          rcases HS.out with ⟨e, _⟩ | ⟨g, cp, e, _⟩
          · exact ⟨none, 0, e⟩
          · exact ⟨_, cp, by rw [e, hl0]⟩
        obtain ⟨a', c', rfl⟩ := hform
        go_wp2_with (fail)
        go_ret
        exact ⟨_, hsz, rfl, HCr.out, HOr.out⟩
      · have h1' : ¬ (0 : Int) < n := by omega
        have h1'' : decide ((0 : Int) < n) = false := by simp; omega
        go_wp2_with (fail)
        go_ret
        exact ⟨_, hsz, rfl, HCr.out, HOr.out⟩
end Go.Proofs.YtdgnjhppggemhaaDoor.Nm
