/-
  The specification's way to read a name, and its Unpacked.
-/
import Derived.Test.YtdbldhcelbllgaaPackV
import Derived.Test.YtdbldhcelbllgaaPackT
namespace Go.Proofs.Ytdbldhcelbllgaa.Nm
open Go.ChangeShapes Go.WideShapes Go.ChangeAt Go.RowKit
section
variable {s : ByteArray} {f q : Nat} {n : Bytes} {e : Option Nat}
theorem na_out (h : s.size ≤ q) : nameAt (bs s) (f + 1) q n e = none := by
  unfold nameAt
  rw [bs_none h]
theorem na_zero (hq : q < s.size) (h : (s[q]).toNat = 0) : nameAt (bs s) (f + 1) q n e = some (n, e.getD (q + 1)) := by
  unfold nameAt
  rw [bs_at hq]
  simp only
  rw [if_pos h]
theorem na_label (hq : q < s.size) (h0 : (s[q]).toNat ≠ 0) (hl : (s[q]).toNat ≤ 12 ∧ q + 1 + (s[q]).toNat ≤ s.size) : nameAt (bs s) (f + 1) q n e = nameAt (bs s) f (q + 1 + (s[q]).toNat) (addL n (bs (s.extract (q + 1) (q + 1 + (s[q]).toNat)))) e := by
  conv => lhs; unfold nameAt
  rw [bs_at hq]
  simp only
  rw [if_neg h0, if_pos (by rw [bs_length]; exact hl), bs_extract, show q + 1 + (s[q]).toNat - (q + 1) = (s[q]).toNat by omega]
theorem na_pair (hq : q + 1 < s.size) (h192 : 192 ≤ (s[q]).toNat) : nameAt (bs s) (f + 1) q n e = nameAt (bs s) f (((s[q]).toNat - 192) * 256 + (s[q + 1]).toNat) n (some (e.getD (q + 2))) := by
  conv => lhs; unfold nameAt
  rw [bs_at (by omega), bs_at hq]
  simp only [Option.getD_some]
  rw [if_neg (by omega), if_neg (by omega), if_pos ⟨h192, by rw [bs_length]; exact hq⟩]
theorem na_else (hq : q < s.size) (h0 : (s[q]).toNat ≠ 0) (hl : ¬ ((s[q]).toNat ≤ 12 ∧ q + 1 + (s[q]).toNat ≤ s.size)) (hp : ¬ (192 ≤ (s[q]).toNat ∧ q + 1 < s.size)) : nameAt (bs s) (f + 1) q n e = none := by
  unfold nameAt
  rw [bs_at hq]
  simp only
  rw [if_neg h0, if_neg (by rw [bs_length]; exact hl), if_neg (by rw [bs_length]; exact hp)]
end
/-- What reading answers. -/
def naV : Option (Bytes × Nat) → Value
  | none => .tuple #[.string ByteArray.empty, .int .i64 0, .bool false]
  | some x => .tuple #[.string (B x.1), .int .i64 (x.2 : Int), .bool true]
def lenOf : Value → Nat | .slice _ n _ => n | _ => 0
def endV : Option Nat → Int
  | none => -1
  | some e => (e : Int)
theorem addL_B (n x : Bytes) (h : n ≠ []) : B n ++ (⟨#[46]⟩ : ByteArray) ++ B x = B (addL n x) := bs_inj (by unfold addL; rw [if_neg h]; simp)
theorem addL_nilB (x : ByteArray) : (ByteArray.empty : ByteArray) ++ x = B (addL [] (bs x)) := bs_inj (by unfold addL; rw [if_pos rfl]; simp)
theorem addL_len (n x : Bytes) : (addL n x).length ≤ n.length + 1 + x.length := by
  unfold addL
  split
  · omega
  · rw [List.length_append, List.length_cons]; omega
set_option maxRecDepth 100000 in
set_option maxHeartbeats 4000000 in
theorem spec_l6Name (s : ByteArray) (p : Nat) (w : World) (hs : s.size ≤ 1048576) (hp : p ≤ 2000000) :
    Calls Try.prog 31 #[.string s, .int .i64 p] w fun e w' => e = .returned (naV (nameAt (bs s) 20 p [] none)) ∧ w' = w := by
  obtain ⟨res, hres⟩ : ∃ r, r = nameAt (bs s) 20 p [] none := ⟨_, rfl⟩
  rw [← hres]
  have HRes := hidIt hres
  clear hres
  go_enter Try.func31, Try.ntmps31
  go_wp2_with (fail)
  go_loopw [1, 7, 8, 9] (fun x y z u wx => ∃ (q i f : Nat) (n : Bytes) (eo : Option Nat), x = .int .i64 q ∧ y = .string (B n) ∧ z = .int .i64 (endV eo) ∧ u = .int .i64 i ∧ i + f = 20 ∧ q ≤ 2000000 ∧ n.length ≤ 13 * i ∧ Hid (nameAt (bs s) f q n eo = res) ∧ Hid (wx = w)) (fun _ _ _ u _ => (20 - intOf u).toNat)
  case atStart => exact ⟨p, 0, 20, [], none, rfl, rfl, rfl, rfl, by omega, hp, by simp, hidIt HRes.out.symm, hidIt rfl⟩
  case round =>
    obtain ⟨q, i, f, n, eo, rfl, hn, hz, rfl, hf, hq, hnl, HE, HW⟩ := hrel
    have ew := HW.out
    subst ew
    clear HRes HW
    cases f with
    | zero =>
      have hi : i = 20 := by omega
      subst hi
      have HZ : Hid (res = none) := hidIt (by rw [← HE.out]; rfl)
      subst hn hz
      go_wp2_with (fail)
      go_ret3
      exact ⟨by rw [HZ.out]; rfl, rfl⟩
    | succ f =>
      have g1 : (i : Int) < 20 := by omega
      rcases Nat.lt_or_ge q s.size with hin | hin
      · have g2 : ¬ (s.size : Int) ≤ (q : Int) := by omega
        have g3 : (q : Int) < (s.size : Int) := by omega
        have hb : (s[q]).toNat < 256 := UInt8.toNat_lt _
        by_cases h0 : (s[q]).toNat = 0
        · have HZ := hidIt HE.out
          rw [na_zero hin h0] at HZ
          have k0 : (((s[q]).toNat : Int)) = 0 := by omega
          clear HE hb h0
          subst hn
          cases eo with
          | none =>
            have hz' : u8 = .int .i64 (-1) := hz
            subst hz'
            clear hz
            go_wp2_with (fail)
            go_ret3
            exact ⟨by rw [← HZ.out]; rfl, rfl⟩
          | some e =>
            have hz' : u8 = .int .i64 (e : Int) := hz
            subst hz'
            clear hz
            have g5 : ¬ (e : Int) < 0 := by omega
            go_wp2_with (fail)
            go_ret3
            exact ⟨by rw [← HZ.out]; rfl, rfl⟩
        · by_cases hl : (s[q]).toNat ≤ 12 ∧ q + 1 + (s[q]).toNat ≤ s.size
          · have HZ := hidIt HE.out
            rw [na_label hin h0 hl] at HZ
            clear HE
            obtain ⟨h, eh⟩ : ∃ h : Nat, (s[q]).toNat = h := ⟨_, rfl⟩
            rw [eh] at hb h0 hl HZ
            have k0 : ((h : Int) == 0) = false := by simp; omega
            have k1 : (h : Int) ≤ 12 := by omega
            have k2 : (q : Int) + 1 + (h : Int) ≤ (s.size : Int) := by omega
            have k3 : (h : Int) < 256 := by omega
            have k4 : (0 : Int) ≤ (q : Int) + 1 := by omega
            have k5 : (q : Int) + 1 ≤ (q : Int) + 1 + (h : Int) := by omega
            have k6 : (0 : Int) ≤ (q : Int) + 1 + (h : Int) := by omega
            have hx : (bs (s.extract (q + 1) (q + 1 + h))).length ≤ 12 := by rw [bs_extract, List.length_take]; omega
            have hal := addL_len n (bs (s.extract (q + 1) (q + 1 + h)))
            have hxs : (s.extract (q + 1) (q + 1 + h)).size ≤ 12 := by rw [← bs_length]; exact hx
            by_cases hne : n = []
            · subst hne
              have hn' : u7 = .string ByteArray.empty := hn
              clear hn
              subst hn'
              go_wp2_with (fail)
              refine ⟨⟨q + 1 + h, i + 1, f, _, eo, by congr 1, ?_, hz, by simp, by omega, by omega, ?_, HZ, by first | exact hidIt rfl | exact hidIt trivial⟩, by simp [intOf]; omega⟩
              · rw [addL, if_pos rfl, B_bs]
              · simp only [List.length_nil] at hal
                omega
            · have hB : B n ≠ ByteArray.empty := fun e => hne (B_inj e)
              have b1 := not_empty hB
              have b2 := filled hB
              have HA := hidIt (addL_B n (bs (s.extract (q + 1) (q + 1 + h))) hne)
              rw [B_bs] at HA
              have hBs : (B n).size ≤ 260 := by rw [B_size]; omega
              subst hn
              generalize B n = t at *
              go_wp2_with (fail)
              refine ⟨⟨q + 1 + h, i + 1, f, _, eo, by congr 1, by rw [HA.out], hz, by simp, by omega, by omega, by omega, HZ, by first | exact hidIt rfl | exact hidIt trivial⟩, by simp [intOf]; omega⟩
          · by_cases hp2 : 192 ≤ (s[q]).toNat ∧ q + 1 < s.size
            · obtain ⟨h192, hlt2⟩ := hp2
              have hb2 : (s[q + 1]).toNat < 256 := UInt8.toNat_lt _
              have HZ := hidIt HE.out
              rw [na_pair hlt2 h192] at HZ
              clear HE
              obtain ⟨h, eh⟩ : ∃ h : Nat, (s[q]).toNat = h := ⟨_, rfl⟩
              obtain ⟨h2, eh2⟩ : ∃ h : Nat, (s[q + 1]).toNat = h := ⟨_, rfl⟩
              clear hl
              rw [eh] at hb h0 h192 HZ
              rw [eh2] at hb2 HZ
              obtain ⟨pl, epl⟩ : ∃ pl : Nat, (h - 192) * 256 + h2 = pl := ⟨_, rfl⟩
              rw [epl] at HZ
              have hpl : pl ≤ 20000 := by omega
              have k5 : ((h : Int) - 192) * 256 + (h2 : Int) = (pl : Int) := by omega
              have k0 : ((h : Int) == 0) = false := by simp; omega
              have k1 : ¬ (h : Int) ≤ 12 := by omega
              have k1' : decide ((h : Int) ≤ 12) = false := by simp; omega
              have k2 : 192 ≤ (h : Int) := by omega
              have k3 : (h : Int) < 256 := by omega
              have k7 : (0 : Int) ≤ (q : Int) + 1 := by omega
              have k8 : (q : Int) + 1 < (s.size : Int) := by omega
              have k9 : (h2 : Int) < 256 := by omega
              clear epl
              subst hn
              cases eo with
              | none =>
                have hz' : u8 = .int .i64 (-1) := hz
                subst hz'
                clear hz
                go_wp2_with (fail)
                exact ⟨⟨pl, i + 1, f, n, some (q + 2), rfl, rfl, by simp [endV], by simp, by omega, by omega, by omega, HZ, by first | exact hidIt rfl | exact hidIt trivial⟩, by simp [intOf]; omega⟩
              | some e =>
                have hz' : u8 = .int .i64 (e : Int) := hz
                subst hz'
                clear hz
                have g5 : ¬ (e : Int) < 0 := by omega
                go_wp2_with (fail)
                exact ⟨⟨pl, i + 1, f, n, some e, rfl, rfl, by simp [endV], by simp, by omega, by omega, by omega, HZ, by first | exact hidIt rfl | exact hidIt trivial⟩, by simp [intOf]; omega⟩
            · have HZ : Hid (res = none) := hidIt (by rw [← HE.out, na_else hin h0 hl hp2])
              clear HE
              obtain ⟨h, eh⟩ : ∃ h : Nat, (s[q]).toNat = h := ⟨_, rfl⟩
              rw [eh] at hb h0 hl hp2
              have k0 : ((h : Int) == 0) = false := by simp; omega
              have k3 : (h : Int) < 256 := by omega
              subst hn hz
              by_cases h12 : h ≤ 12
              · have k1 : (h : Int) ≤ 12 := by omega
                have k2 : ¬ (q : Int) + 1 + (h : Int) ≤ (s.size : Int) := by omega
                have k4 : ¬ 192 ≤ (h : Int) := by omega
                have k4' : decide (192 ≤ (h : Int)) = false := by simp; omega
                go_wp2_with (fail)
                go_ret3
                exact ⟨by rw [HZ.out]; rfl, rfl⟩
              · have k1 : ¬ (h : Int) ≤ 12 := by omega
                have k1' : decide ((h : Int) ≤ 12) = false := by simp; omega
                by_cases h192 : 192 ≤ h
                · have k2 : 192 ≤ (h : Int) := by omega
                  have k4 : ¬ (q : Int) + 1 < (s.size : Int) := by omega
                  go_wp2_with (fail)
                  go_ret3
                  exact ⟨by rw [HZ.out]; rfl, rfl⟩
                · have k4 : ¬ 192 ≤ (h : Int) := by omega
                  have k4' : decide (192 ≤ (h : Int)) = false := by simp; omega
                  go_wp2_with (fail)
                  go_ret3
                  exact ⟨by rw [HZ.out]; rfl, rfl⟩
      · have g2 : (s.size : Int) ≤ (q : Int) := by omega
        have HZ : Hid (res = none) := hidIt (by rw [← HE.out, na_out hin])
        subst hn hz
        go_wp2_with (fail)
        go_ret3
        exact ⟨by rw [HZ.out]; rfl, rfl⟩
theorem naV_none : naV none = .tuple #[.string ByteArray.empty, .int .i64 0, .bool false] := rfl
theorem naV_some (x : Bytes × Nat) : naV (some x) = .tuple #[.string (B x.1), .int .i64 (x.2 : Int), .bool true] := rfl
theorem unL_end' {s : Bytes} {f q : Nat} {out : List Bytes} (h : ¬ q < s.length) : unL s (f + 1) q out = some out := by
  unfold unL
  rw [if_neg h]
theorem unL_none {s : Bytes} {f q : Nat} {out : List Bytes} (h : q < s.length) (hr : nameAt s 20 q [] none = none) : unL s (f + 1) q out = none := by
  unfold unL
  rw [if_pos h, hr]
theorem unL_more {s : Bytes} {f q : Nat} {out : List Bytes} {x : Bytes × Nat} (h : q < s.length) (hr : nameAt s 20 q [] none = some x) : unL s (f + 1) q out = unL s f x.2 (out ++ [x.1]) := by
  conv => lhs; unfold unL
  rw [if_pos h, hr]
theorem na_bound {s : Bytes} : ∀ (f q : Nat) (n : Bytes) (e : Option Nat) (x : Bytes × Nat), nameAt s f q n e = some x → (∀ z, e = some z → z ≤ s.length) → x.2 ≤ s.length ∧ x.1.length ≤ n.length + 13 * f
  | 0, _, _, _, _, h, _ => by simp [nameAt] at h
  | f + 1, q, n, e, x, h, he => by
    unfold nameAt at h
    split at h
    · cases h
    next c hc =>
    have hq : q < s.length := (List.getElem?_eq_some_iff.1 hc).1
    split at h
    · cases h
      cases e with
      | none => simp; omega
      | some z => have := he z rfl; simp; omega
    split at h
    next h12 =>
      have := na_bound f _ _ _ _ h he
      have hl := addL_len n ((s.drop (q + 1)).take c.toNat)
      rw [List.length_take] at hl
      omega
    split at h
    next hp =>
      have := na_bound f _ _ _ _ h (fun z hz => by
        cases hz
        cases e with
        | none => simp; omega
        | some z => have := he z rfl; simpa using this)
      omega
    · cases h
set_option maxRecDepth 100000 in
set_option maxHeartbeats 4000000 in
theorem spec_Unpacked (s : ByteArray) (w : World) (hs : s.size ≤ 1048576) :
    Calls Try.prog 13 #[.string s] w fun e w' => ∃ v, e = .returned (.tuple #[v, .bool (unpack (bs s)).isSome]) ∧ Own w' w.heap.size v (((unpack (bs s)).getD []).map B) ∧ Below w.heap.size w w' := by
  obtain ⟨is, his, hs0, hs1, hs2⟩ := info_parts info9t
  have hu : (match unL (bs s) 21 0 [] with | none => none | some L => if okN L = true ∧ pack L = bs s then some L else none) = unpack (bs s) := rfl
  obtain ⟨up, hup⟩ : ∃ u, u = unpack (bs s) := ⟨_, rfl⟩
  rw [← hup] at hu ⊢
  have HU := hidIt hu
  clear hu hup
  go_enter Try.func13, Try.ntmps13
  go_wp2_with (fail)
  go_loopw [4, 5] (fun y z wx => ∃ (q f : Nat) (Ls : List Bytes), z = .int .i64 q ∧ q ≤ s.size ∧ Ls.length + f = 21 ∧ Hid (Own wx w.heap.size y (Ls.map B)) ∧ Hid (unL (bs s) f q Ls = unL (bs s) 21 0 []) ∧ Hid (Below w.heap.size w wx)) (fun y _ _ => 21 - lenOf y)
  case atStart => exact ⟨0, 21, [], rfl, by omega, by simp, hidIt (Own.new w), hidIt rfl, hidIt ((Below.refl _ w).alloc (Nat.le_refl _) _)⟩
  case round =>
    obtain ⟨q, f, Ls, rfl, hq, hf, HO, HE, HB⟩ := hrel
    have hbl := bs_length s
    obtain ⟨a4, c4, hv4, hc4, hm4, hR4, hrest⟩ := HO.out.form
    rw [List.length_map] at hv4
    subst hv4
    clear hrest
    by_cases hgo : q < s.size ∧ Ls.length ≤ 20
    · obtain ⟨hin, h20⟩ := hgo
      have g1 : (q : Int) < (s.size : Int) := by omega
      have g2 : (Ls.length : Int) ≤ 20 := by omega
      have hqb : q < (bs s).length := by omega
      obtain ⟨g, rfl⟩ : ∃ g, f = g + 1 := ⟨f - 1, by omega⟩
      have HN := hidIt (fun w => spec_l6Name s q w hs (by omega))
      cases hr : nameAt (bs s) 20 q [] none with
      | none =>
        rw [hr, naV_none] at HN
        have HZ : Hid (up = none) := hidIt (by rw [← HU.out, ← HE.out, unL_none hqb hr])
        clear HE hr hbl hqb HU
        go_wp2_with (go_at_call 31; refine (HN.out _).mono ?_; rintro e w1 ⟨rfl, rfl⟩)
        go_ret2
        refine ⟨_, by rw [HZ.out]; rfl, by rw [HZ.out]; exact (Own.new _).mono HB.out.size, HB.out.alloc HB.out.size _⟩
      | some x =>
        obtain ⟨nm, z⟩ := x
        have hbz := na_bound _ _ _ _ _ hr (by simp)
        rw [hbl] at hbz
        obtain ⟨r5, r6⟩ := hbz
        rw [hr, naV_some] at HN
        have HE2 := hidIt HE.out
        rw [unL_more hqb hr] at HE2
        clear HE hr hbl hqb
        obtain ⟨x, hx⟩ : ∃ x, x = B nm := ⟨_, rfl⟩
        rw [← hx] at HN
        have HX := hidIt hx
        clear hx
        go_wp2_with (first
          | (go_at_call 31; refine (HN.out _).mono ?_; rintro e w1 ⟨rfl, rfl⟩)
          | (at_builtin; refine wpList_append_own _ rfl _ _ 24 rfl w.heap.size 9 is (.string ByteArray.empty) 1 16 Try.underlying24 his hs0 hs1 hs2 rfl (by decide) _ _ _ rfl (World.ownsRow.alloc HO.out _) ⟨w1.heap.size, 0, none⟩ 1 1 [.string x] rfl rfl (str_newU _ _) (fun u hu => by simp at hu; subst hu; rfl) ?d3 ?d4 ?d5 ?_))
        case d3 => rw [List.length_map]; unfold maxLen; omega
        case d4 => rw [List.length_map]; omega
        case d5 => exact Nat.le_trans HB.out.size (by simp)
        intro v' w2 hown hgrow _
        have hown2 : w2.ownsRow w.heap.size 9 1 v' (Ls.length + 1) (scells (Ls.map B) ++ [.string x]) := by simpa using hown
        have hO2 := Own.moreB hown2 HX.out
        have HB2 := hidIt (HB.out.trans (grown_below HO.out (grown_alloc hgrow) (Nat.le_refl _) HB.out.size))
        obtain ⟨a6, c6, hv6, _⟩ := hO2.form
        rw [List.length_map, List.length_append, List.length_singleton] at hv6
        subst hv6
        have HO2 := hidIt hO2
        clear hown hown2 hgrow HO HB hO2
        go_wp2_with (fail)
        exact ⟨⟨z, g, Ls ++ [nm], rfl, r5, by simp; omega, HO2, HE2, HB2⟩, by simp [lenOf]; omega⟩
    · have hl21 : Ls.length ≤ 21 := by omega
      have HL : Hid (unL (bs s) 21 0 [] = some Ls) := by
        refine hidIt ?_
        rw [← HE.out]
        cases f with
        | zero => rfl
        | succ g => exact unL_end' (by omega)
      have HNm := hidIt (spec_l6Names a4 c4 (Ls.map B) wr hR4 (by rw [List.length_map]; omega))
      rw [mapB_bL, List.length_map] at HNm
      rw [List.length_map] at hc4
      have HR := hidIt hR4
      clear hR4 HE
      rcases Nat.lt_or_ge q s.size with hin | hin
      · have g1 : (q : Int) < (s.size : Int) := by omega
        have g2 : ¬ (Ls.length : Int) ≤ 20 := by omega
        clear hgo
        cases hk : okN Ls with
        | false =>
          rw [hk] at HNm
          have HZ : Hid (up = none) := hidIt (by rw [← HU.out, HL.out]; simp [hk])
          clear HU HL hk
          go_wp2_with (go_at_call 32; refine HNm.out.mono ?_; rintro e w1 ⟨rfl, hB1⟩)
          have HB1 := hidIt (HB.out.trans (hB1.mono HB.out.size))
          go_wp2_with (fail)
          go_ret2
          exact ⟨_, by rw [HZ.out]; rfl, by rw [HZ.out]; exact (Own.new _).mono HB1.out.size, HB1.out.alloc HB1.out.size _⟩
        | true =>
          rw [hk] at HNm
          have HPk := hidIt (fun wx hx => spec_l6Packed a4 c4 (Ls.map B) wx hx (by rw [mapB_bL]; exact hk))
          rw [mapB_bL, List.length_map] at HPk
          by_cases hp : pack Ls = bs s
          · have HZ : Hid (up = some Ls) := hidIt (by rw [← HU.out, HL.out]; simp [hk, hp])
            rw [hp, B_bs] at HPk
            clear HU HL hk hp
            go_wp2_with (go_at_call 32; refine HNm.out.mono ?_; rintro e w1 ⟨rfl, hB1⟩)
            have HO1 := hidIt (HO.out.kept hB1)
            have HR1 := hidIt (HR.out.kept hB1)
            have HB1 := hidIt (HB.out.trans (hB1.mono HB.out.size))
            clear hB1
            go_wp2_with (go_at_call 33; refine (HPk.out _ HR1.out).mono ?_; rintro e w2 ⟨rfl, hB2⟩)
            have HO2 := hidIt (HO1.out.kept hB2)
            have HB2 := hidIt (HB1.out.trans (hB2.mono HB1.out.size))
            clear hB2
            go_wp2_with (fail)
            go_ret2
            exact ⟨_, by rw [HZ.out]; rfl, by rw [HZ.out]; exact HO2.out, HB2.out⟩
          · have HZ : Hid (up = none) := hidIt (by rw [← HU.out, HL.out]; simp [hp])
            have hne : B (pack Ls) ≠ s := fun e => hp (by rw [← e])
            have hne' := text_ne hne
            clear HU HL hk hp hne
            generalize B (pack Ls) = t at *
            go_wp2_with (go_at_call 32; refine HNm.out.mono ?_; rintro e w1 ⟨rfl, hB1⟩)
            have HR1 := hidIt (HR.out.kept hB1)
            have HB1 := hidIt (HB.out.trans (hB1.mono HB.out.size))
            clear hB1
            go_wp2_with (go_at_call 33; refine (HPk.out _ HR1.out).mono ?_; rintro e w2 ⟨rfl, hB2⟩)
            have HB2 := hidIt (HB1.out.trans (hB2.mono HB1.out.size))
            clear hB2
            go_wp2_with (fail)
            go_ret2
            exact ⟨_, by rw [HZ.out]; rfl, by rw [HZ.out]; exact (Own.new _).mono HB2.out.size, HB2.out.alloc HB2.out.size _⟩
      · have g1 : ¬ (q : Int) < (s.size : Int) := by omega
        have g1' : decide ((q : Int) < (s.size : Int)) = false := by simp; omega
        clear hgo
        cases hk : okN Ls with
        | false =>
          rw [hk] at HNm
          have HZ : Hid (up = none) := hidIt (by rw [← HU.out, HL.out]; simp [hk])
          clear HU HL hk
          go_wp2_with (go_at_call 32; refine HNm.out.mono ?_; rintro e w1 ⟨rfl, hB1⟩)
          have HB1 := hidIt (HB.out.trans (hB1.mono HB.out.size))
          go_wp2_with (fail)
          go_ret2
          exact ⟨_, by rw [HZ.out]; rfl, by rw [HZ.out]; exact (Own.new _).mono HB1.out.size, HB1.out.alloc HB1.out.size _⟩
        | true =>
          rw [hk] at HNm
          have HPk := hidIt (fun wx hx => spec_l6Packed a4 c4 (Ls.map B) wx hx (by rw [mapB_bL]; exact hk))
          rw [mapB_bL, List.length_map] at HPk
          by_cases hp : pack Ls = bs s
          · have HZ : Hid (up = some Ls) := hidIt (by rw [← HU.out, HL.out]; simp [hk, hp])
            rw [hp, B_bs] at HPk
            clear HU HL hk hp
            go_wp2_with (go_at_call 32; refine HNm.out.mono ?_; rintro e w1 ⟨rfl, hB1⟩)
            have HO1 := hidIt (HO.out.kept hB1)
            have HR1 := hidIt (HR.out.kept hB1)
            have HB1 := hidIt (HB.out.trans (hB1.mono HB.out.size))
            clear hB1
            go_wp2_with (go_at_call 33; refine (HPk.out _ HR1.out).mono ?_; rintro e w2 ⟨rfl, hB2⟩)
            have HO2 := hidIt (HO1.out.kept hB2)
            have HB2 := hidIt (HB1.out.trans (hB2.mono HB1.out.size))
            clear hB2
            go_wp2_with (fail)
            go_ret2
            exact ⟨_, by rw [HZ.out]; rfl, by rw [HZ.out]; exact HO2.out, HB2.out⟩
          · have HZ : Hid (up = none) := hidIt (by rw [← HU.out, HL.out]; simp [hp])
            have hne : B (pack Ls) ≠ s := fun e => hp (by rw [← e])
            have hne' := text_ne hne
            clear HU HL hk hp hne
            generalize B (pack Ls) = t at *
            go_wp2_with (go_at_call 32; refine HNm.out.mono ?_; rintro e w1 ⟨rfl, hB1⟩)
            have HR1 := hidIt (HR.out.kept hB1)
            have HB1 := hidIt (HB.out.trans (hB1.mono HB.out.size))
            clear hB1
            go_wp2_with (go_at_call 33; refine (HPk.out _ HR1.out).mono ?_; rintro e w2 ⟨rfl, hB2⟩)
            have HB2 := hidIt (HB1.out.trans (hB2.mono HB1.out.size))
            clear hB2
            go_wp2_with (fail)
            go_ret2
            exact ⟨_, by rw [HZ.out]; rfl, by rw [HZ.out]; exact (Own.new _).mono HB2.out.size, HB2.out.alloc HB2.out.size _⟩
end Go.Proofs.Ytdbldhcelbllgaa.Nm
