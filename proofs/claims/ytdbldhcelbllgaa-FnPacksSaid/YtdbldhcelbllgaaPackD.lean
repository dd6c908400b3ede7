/-
  What the drawing functions of chapter 6 answer, whatever the bytes: a list of at most 21 texts, a short text; they write into their own cursor and new memory alone.
-/
import Derived.Test.YtdbldhcelbllgaaPackB
import Derived.Test.YtdbldhcelbllgaaPackT
import Derived.Test.YtdbldhcelbllgaaNameD
namespace Go.Proofs.Ytdbldhcelbllgaa.Nm
open Go.ChangeShapes Go.WideShapes Go.ChangeAt Go.RowKit
open Dr
set_option maxRecDepth 100000 in
set_option maxHeartbeats 4000000 in
theorem l6Draw_any (Bb c : Nat) (a : Option Addr) (len cap : Nat) (w : World) (hC : Cur Bb w c a len cap) :
    Calls Try.prog 23 #[.pointer (some ⟨c, 0, none⟩)] w fun e w' => ∃ v L, e = .returned v ∧ L.length ≤ 21 ∧ Nm.Own w' w.heap.size v L ∧ Cur Bb w' c a len cap ∧ Only c w w' := by
  have hlt := hC.lt
  have HC := hidIt hC
  clear hC
  obtain ⟨is, his, hs0, hs1, hs2⟩ := info_parts info9t
  go_enter Try.func23, Try.ntmps23
  go_wp2_with (fail)
  have C0 := hidIt (HC.out.kept ((Below.refl (c + 1) w).alloc hlt (.cells #[] 9)))
  refine (l1Below_any Bb c a len cap 6 _ (by decide) C0.out).mono ?_
  rintro e w1 ⟨x, x0, x1, rfl, hC1, hO1⟩
  obtain ⟨xn, rfl⟩ := Int.eq_ofNat_of_zero_le x0
  have P1 := hidIt ((Only.of_below (c := c) ((Below.refl w.heap.size w).alloc (Nat.le_refl _) (.cells #[] 9))).trans hO1)
  have W1 := hidIt ((Own.new w).only hO1 (.inl hlt))
  have C1 := hidIt hC1
  clear hC1 hO1 HC C0
  go_wp2_with (fail)
  go_loopw [3, 4] (fun y z wx => ∃ (n : Nat) (L : List ByteArray), z = .int .i64 n ∧ n ≤ 5 ∧ n + L.length ≤ 5 ∧ Hid (Nm.Own wx w.heap.size y L) ∧ Hid (Cur Bb wx c a len cap) ∧ Hid (Only c w wx)) (fun _ z _ => (intOf z).toNat)
  case atStart => exact ⟨xn, [], rfl, by omega, by simp; omega, W1, C1, P1⟩
  case round =>
    obtain ⟨n, L, rfl, hn, hnl, HO, HCr, HP⟩ := hrel
    clear W1 C1 P1
    by_cases h0 : 0 < n
    · have h0' : (0 : Int) < n := by omega
      have h5' : (n : Int) ≤ 5 := by omega
      go_wp2_with (fail)
      refine (l5Draw_any Bb c a len cap _ HCr.out).mono ?_
      rintro e w2 ⟨t, rfl, hC2, hO2⟩
      have O2 := hidIt (HO.out.only hO2 (.inl hlt))
      have C2 := hidIt hC2
      have P2 := hidIt (HP.out.trans hO2)
      clear hC2 hO2 HO HCr HP
      have HK := hidIt (spec_NameOk t)
      generalize okB (bs t) = ok at HK
      obtain ⟨a3, c3, hv3, _⟩ := O2.out.form
      subst hv3
      cases ok with
      | true =>
        go_wp2_with (first
          | (go_at_call 37; refine (HK.out _).mono ?_; rintro e w3 ⟨rfl, hB3⟩)
          | (at_builtin; refine wpList_append_own _ rfl _ _ 24 rfl w.heap.size 9 is (.string ByteArray.empty) 1 16 Try.underlying24 his hs0 hs1 hs2 rfl (by decide) _ _ _ rfl (World.ownsRow.alloc (O2.out.kept hB3) _) ⟨w3.heap.size, 0, none⟩ 1 1 [.string t] rfl rfl (str_new _ _) (fun u hu => by simp at hu; subst hu; rfl) ?d3 ?d4 ?d5 ?_))
        case d3 => unfold maxLen; omega
        case d4 => omega
        case d5 => exact Nat.le_trans P2.out.size (Nat.le_trans hB3.size (by simp))
        intro v' w4 hown hgrow _
        have HO4 := hidIt (Own.more hown)
        have hb4 := grown_below (B := w.heap.size) (O2.out.kept hB3) (grown_alloc hgrow) (Nat.le_refl _) (Nat.le_trans P2.out.size hB3.size)
        have HC4 := hidIt ((C2.out.kept (hB3.mono C2.out.lt)).kept (hb4.mono hlt))
        have HP4 := hidIt (only_grown (P2.out.trans (Only.of_below hB3)) (grown_alloc hgrow) (fun k hk => (World.ownsRow.lt O2.out k hk).1))
        clear hown hgrow hb4 hB3
        go_wp2_with (fail)
        refine ⟨⟨n - 1, L ++ [t], ?_, by omega, by simp; omega, HO4, HC4, HP4⟩, by simp [intOf]; omega⟩
        congr 1
        omega
      | false =>
        go_wp2_with (go_at_call 37; refine (HK.out _).mono ?_; rintro e w3 ⟨rfl, hB3⟩)
        have O3 := hidIt (O2.out.kept hB3)
        have C3 := hidIt (C2.out.kept (hB3.mono C2.out.lt))
        have P3 := hidIt (P2.out.trans (Only.of_below hB3))
        clear hB3 O2 C2 P2
        refine (l1Once_any Bb c a len cap 8 _ (by decide) C3.out).mono ?_
        rintro e w4 ⟨b4, rfl, hC4, hO4⟩
        have O4 := hidIt (O3.out.only hO4 (.inl hlt))
        have C4 := hidIt hC4
        have P4 := hidIt (P3.out.trans hO4)
        clear hC4 hO4 O3 C3 P3
        cases b4 with
        | false =>
          go_wp2_with (fail)
          refine ⟨⟨n - 1, L, ?_, by omega, by omega, O4, C4, P4⟩, by simp [intOf]; omega⟩
          congr 1
          omega
        | true =>
          go_wp2_with (at_builtin; refine wpList_append_own _ rfl _ _ 24 rfl w.heap.size 9 is (.string ByteArray.empty) 1 16 Try.underlying24 his hs0 hs1 hs2 rfl (by decide) _ _ _ rfl (World.ownsRow.alloc O4.out _) ⟨w4.heap.size, 0, none⟩ 1 1 [.string t] rfl rfl (str_new _ _) (fun u hu => by simp at hu; subst hu; rfl) ?d3 ?d4 ?d5 ?_)
          case d3 => unfold maxLen; omega
          case d4 => omega
          case d5 => exact Nat.le_trans P4.out.size (by simp)
          intro v' w5 hown hgrow _
          have HO5 := hidIt (Own.more hown)
          have hb5 := grown_below (B := w.heap.size) O4.out (grown_alloc hgrow) (Nat.le_refl _) P4.out.size
          have HC5 := hidIt (C4.out.kept (hb5.mono hlt))
          have HP5 := hidIt (only_grown P4.out (grown_alloc hgrow) (fun k hk => (World.ownsRow.lt O4.out k hk).1))
          clear hown hgrow hb5
          go_wp2_with (fail)
          refine ⟨⟨n - 1, L ++ [t], ?_, by omega, by simp; omega, HO5, HC5, HP5⟩, by simp [intOf]; omega⟩
          congr 1
          omega
    · have h0' : ¬ (0 : Int) < n := by omega
      go_wp2_with (fail)
      refine (l1Once_any Bb c a len cap 40 _ (by decide) HCr.out).mono ?_
      rintro e w2 ⟨b2, rfl, hC2, hO2⟩
      have O2 := hidIt (HO.out.only hO2 (.inl hlt))
      have C2 := hidIt hC2
      have P2 := hidIt (HP.out.trans hO2)
      clear hC2 hO2 HO HCr HP
      cases b2 with
      | false =>
        go_wp2_with (fail)
        go_ret
        exact ⟨_, L, rfl, by omega, O2.out, C2.out, P2.out⟩
      | true =>
        go_wp2_with (fail)
        refine (l1Below_any Bb c a len cap 2 _ (by decide) C2.out).mono ?_
        rintro e w3 ⟨y, y0, y1, rfl, hC3, hO3⟩
        obtain ⟨yn, rfl⟩ := Int.eq_ofNat_of_zero_le y0
        have C3 := hidIt hC3
        have P3 := hidIt (P2.out.trans hO3)
        clear hC3 hO3 C2 P2 O2
        go_wp2_with (first
          | (at_make; refine wpList_make_full _ rfl _ _ 24 rfl w.heap.size 9 is (.string ByteArray.empty) 1 Try.underlying24 his hs0 hs1 _ _ _ _ (20 + yn) rfl rfl (by omega) (by omega) (by rw [hs2]; omega) (by unfold maxLen; omega) P3.out.size ?_)
          | fail)
        intro w4 hown hgrow
        have HO4 : Hid (Nm.Own w4 w.heap.size (.slice (some ⟨w3.heap.size, 0, none⟩) (20 + yn) (20 + yn)) (List.replicate (20 + yn) ByteArray.empty)) := by
          refine hidIt ?_
          unfold Nm.Own
          rw [List.length_replicate, scells_zero]
          exact hown
        have hb4 : Below w3.heap.size w3 w4 := (Below.refl w3.heap.size w3).grown hgrow (Nat.le_refl _) (fun k hk => by cases hk)
        have HC4 := hidIt (C3.out.kept (hb4.mono C3.out.lt))
        have HP4 := hidIt (P3.out.trans (Only.of_below hb4))
        clear hown hgrow hb4
        go_wp2_with (fail)
        go_ret
        exact ⟨_, _, rfl, by rw [List.length_replicate]; omega, HO4.out, HC4.out, HP4.out⟩
set_option maxRecDepth 100000 in
set_option maxHeartbeats 2000000 in
theorem DrawPacked_any (a : Option Addr) (len cap : Nat) (w : World) (hc : Dr.Code w.heap.size w a len) (hl : len ≤ 4096) :
    Calls Try.prog 8 #[.slice a len cap] w fun e w' => ∃ v L, e = .returned v ∧ L.length ≤ 21 ∧ Nm.Own w' w.heap.size v L ∧ Below w.heap.size w w' := by
  have HC := hidIt hc
  clear hc
  go_enter Try.func8, Try.ntmps8
  go_wp2_with (fail)
  refine (l1New_any w.heap.size a len cap _ (Nat.le_refl _) HC.out hl).mono ?_
  rintro e w1 ⟨c, rfl, hC1, hB1⟩
  have C1 := hidIt hC1
  have B1 := hidIt hB1
  clear hC1 hB1 HC
  go_wp2_with (fail)
  refine (l6Draw_any w.heap.size c a len cap _ C1.out).mono ?_
  rintro e w2 ⟨v, L, rfl, hL, hO2, hC2, hP2⟩
  go_wp2_with (fail)
  go_ret
  exact ⟨v, L, rfl, hL, hO2.mono B1.out.size, B1.out.trans (hP2.below C1.out.here B1.out.size)⟩
set_option maxRecDepth 100000 in
set_option maxHeartbeats 2000000 in
theorem DrawUnpacked_any (a : Option Addr) (len cap : Nat) (w : World) (hc : Dr.Code w.heap.size w a len) (hl : len ≤ 4096) :
    Calls Try.prog 10 #[.slice a len cap] w fun e w' => ∃ t : ByteArray, e = .returned (.string t) ∧ t.size ≤ 2002 ∧ Below w.heap.size w w' := by
  have HC := hidIt hc
  clear hc
  go_enter Try.func10, Try.ntmps10
  go_wp2_with (fail)
  refine (l1New_any w.heap.size a len cap _ (Nat.le_refl _) HC.out hl).mono ?_
  rintro e w1 ⟨c, rfl, hC1, hB1⟩
  have C1 := hidIt hC1
  have B1 := hidIt hB1
  clear hC1 hB1 HC
  go_wp2_with (fail)
  refine (l6Draw_any w.heap.size c a len cap _ C1.out).mono ?_
  rintro e w2 ⟨v, L, rfl, hL, hO2, hC2, hP2⟩
  obtain ⟨x2, c2, rfl, _, _, hR2, _⟩ := hO2.form
  have HPk := hidIt (spec_Packed x2 c2 L w2 hR2 (by omega))
  have hz : (B (packB (bL L))).size ≤ 1240 := by rw [B_size]; exact packB_length _
  generalize B (packB (bL L)) = t at HPk hz
  have C2 := hidIt hC2
  have B2 := hidIt (B1.out.trans (hP2.below C1.out.here B1.out.size))
  have h1 := C1.out.here
  clear hC2 hP2 hO2 hR2 B1
  go_wp2_with (fail)
  refine HPk.out.mono ?_
  rintro e w3 ⟨rfl, hB3⟩
  have C3 := hidIt (C2.out.kept (hB3.mono C2.out.lt))
  have B3 := hidIt (B2.out.trans (hB3.mono B2.out.size))
  clear hB3 B2 C2
  go_wp2_with (fail)
  refine (l1Once_any w.heap.size c a len cap 2 _ (by decide) C3.out).mono ?_
  rintro e w4 ⟨b4, rfl, hC4, hP4⟩
  have C4 := hidIt hC4
  have B4 := hidIt (B3.out.trans (hP4.below h1 B3.out.size))
  clear hC4 hP4 B3 C3
  cases b4 with
  | false =>
    go_wp2_with (fail)
    go_ret
    exact ⟨t, rfl, by omega, B4.out⟩
  | true =>
    go_wp2_with (fail)
    refine (l1Bend_sg w.heap.size c a len cap t ⟨#[0, 1, 192, 5, 97]⟩ _ C4.out (by omega) (by decide) (by decide)).mono ?_
    rintro e w5 ⟨r, hr, rfl, hC5, hP5⟩
    go_wp2_with (fail)
    go_ret
    exact ⟨r, rfl, hr, B4.out.trans (hP5.below h1 B4.out.size)⟩
end Go.Proofs.Ytdbldhcelbllgaa.Nm
