/-
  The program's Unpacked: what it reads, packs once more and answers.
-/
import Derived.Test.YtdbldhcelbllgaaPackU
namespace Go.Proofs.Ytdbldhcelbllgaa.Nm
open Go.ChangeShapes Go.WideShapes Go.ChangeAt Go.RowKit
theorem rdN_end {s : Bytes} {f q : Nat} {out : List Bytes} (h : ¬ q < s.length) : rdN s (f + 1) q out = some out := by
  unfold rdN
  rw [if_neg h]
theorem rdN_none {s : Bytes} {f q : Nat} {out : List Bytes} (h : q < s.length) (hr : rd s (rdF s) q [] 0 = none) : rdN s (f + 1) q out = none := by
  unfold rdN
  rw [if_pos h, hr]
theorem rdN_full {s : Bytes} {f q : Nat} {out : List Bytes} {x : List Bytes × Nat} (h : q < s.length) (hr : rd s (rdF s) q [] 0 = some x) (ho : out.length = 20) : rdN s (f + 1) q out = none := by
  unfold rdN
  rw [if_pos h, hr]
  simp only
  rw [if_pos ho]
theorem rdN_more {s : Bytes} {f q : Nat} {out : List Bytes} {x : List Bytes × Nat} (h : q < s.length) (hr : rd s (rdF s) q [] 0 = some x) (ho : ¬ out.length = 20) : rdN s (f + 1) q out = rdN s f x.2 (out ++ [join x.1]) := by
  conv => lhs; unfold rdN
  rw [if_pos h, hr]
  simp only
  rw [if_neg ho]
theorem rdV_none : rdV none = .tuple #[.string ByteArray.empty, .int .i64 0, .bool false] := rfl
theorem rdV_some (ls : List Bytes) (z : Nat) : rdV (some (ls, z)) = .tuple #[.string (B (join ls)), .int .i64 (z : Int), .bool true] := rfl
theorem Own.moreB {w : World} {base : Nat} {v : Value} {Ls : List Bytes} {x : ByteArray} {l : Bytes} (h : w.ownsRow base 9 1 v (Ls.length + 1) (scells (Ls.map B) ++ [.string x])) (hx : x = B l) : Own w base v ((Ls ++ [l]).map B) := by
  subst hx
  rw [List.map_append]
  exact Own.more (L := Ls.map B) (by rw [List.length_map]; exact h)
theorem rdN_len {s : Bytes} : ∀ (f q : Nat) (out L : List Bytes), rdN s f q out = some L → out.length ≤ 20 → L.length ≤ 20
  | 0, _, _, _, h, _ => by simp [rdN] at h
  | f + 1, q, out, L, h, ho => by
    unfold rdN at h
    split at h
    · split at h
      · cases h
      · split at h
        · cases h
        · exact rdN_len f _ _ _ h (by simp; omega)
    · cases h; exact ho
theorem text_neV {a b : ByteArray} (h : a ≠ b) : (a.toList == b.toList) = false := by
  rw [toList_beq]
  exact decide_eq_false (fun e => h (bs_inj e))
theorem own_nil (w : World) (base : Nat) : Own w base (.slice none 0 0) [] := World.ownsRow_nil _ _ _ _
theorem mapB_bL (Ls : List Bytes) : bL (Ls.map B) = Ls := by
  rw [bL, List.map_map, show (bs ∘ B : Bytes → Bytes) = id from funext bs_B, List.map_id]
set_option maxRecDepth 100000 in
set_option maxHeartbeats 4000000 in
theorem impl_readNames (s : ByteArray) (w : World) (hs : s.size ≤ 1048576) :
    Calls Try.prog 29 #[.string s] w fun e w' => ∃ v, e = .returned (.tuple #[v, .bool (rdN (bs s) 21 0 []).isSome]) ∧ Own w' w.heap.size v (((rdN (bs s) 21 0 []).getD []).map B) ∧ Below w.heap.size w w' := by
  obtain ⟨is, his, hs0, hs1, hs2⟩ := info_parts info9t
  obtain ⟨res, hres⟩ : ∃ r, r = rdN (bs s) 21 0 [] := ⟨_, rfl⟩
  rw [← hres]
  have HRes := hidIt hres
  clear hres
  go_enter Try.func29, Try.ntmps29
  go_wp2_with (fail)
  go_loopw [4, 5] (fun y z wx => ∃ (q f : Nat) (Ls : List Bytes), z = .int .i64 q ∧ q ≤ s.size ∧ Ls.length + f = 20 ∧ Hid (Own wx w.heap.size y (Ls.map B)) ∧ Hid (rdN (bs s) (f + 1) q Ls = res) ∧ Hid (Below w.heap.size w wx)) (fun _ z _ => (s.size - intOf z).toNat)
  case atStart => exact ⟨0, 20, [], rfl, by omega, by simp, hidIt (Own.new w), hidIt HRes.out.symm, hidIt ((Below.refl _ w).alloc (Nat.le_refl _) _)⟩
  case round =>
    obtain ⟨q, f, Ls, rfl, hq, hf, HO, HE, HB⟩ := hrel
    clear HRes
    have hbl := bs_length s
    rcases Nat.lt_or_ge q s.size with hin | hin
    · have g1 : (q : Int) < (s.size : Int) := by omega
      have hqb : q < (bs s).length := by omega
      have HN := hidIt (fun w => impl_readName s q w hs hin)
      cases hr : rd (bs s) (rdF (bs s)) q [] 0 with
      | none =>
        rw [hr, rdV_none] at HN
        have HZ : Hid (res = none) := hidIt (by rw [← HE.out, rdN_none hqb hr])
        clear HE hr hbl hqb
        go_wp2_with (go_at_call 43; refine (HN.out _).mono ?_; rintro e w1 ⟨rfl, hB1⟩)
        go_ret2
        refine ⟨_, by rw [HZ.out]; rfl, by rw [HZ.out]; exact own_nil _ _, HB.out.trans (hB1.mono HB.out.size)⟩
      | some x =>
        obtain ⟨ls, z⟩ := x
        obtain ⟨r1, r2, r3, _⟩ := rd_some _ _ _ _ _ _ hr (by simp) (by simp)
        obtain ⟨r4, r5⟩ := r3 rfl
        rw [hbl] at r5
        rw [hr, rdV_some] at HN
        obtain ⟨a4, c4, hv4, _⟩ := HO.out.form
        rw [List.length_map] at hv4
        subst hv4
        by_cases h20 : Ls.length = 20
        · have g2 : ((Ls.length : Int) == 20) = true := by simp; omega
          have HZ : Hid (res = none) := hidIt (by rw [← HE.out, rdN_full hqb hr h20])
          clear HE hr hbl hqb
          go_wp2_with (go_at_call 43; refine (HN.out _).mono ?_; rintro e w1 ⟨rfl, hB1⟩)
          go_ret2
          refine ⟨_, by rw [HZ.out]; rfl, by rw [HZ.out]; exact own_nil _ _, HB.out.trans (hB1.mono HB.out.size)⟩
        · have g2 : ((Ls.length : Int) == 20) = false := by simp; omega
          obtain ⟨g, rfl⟩ : ∃ g, f = g + 1 := ⟨f - 1, by omega⟩
          have HE2 := hidIt HE.out
          rw [rdN_more hqb hr h20] at HE2
          clear HE hr hbl hqb r2
          obtain ⟨x, hx⟩ : ∃ x, x = B (join ls) := ⟨_, rfl⟩
          rw [← hx] at HN
          have HX := hidIt hx
          clear hx
          go_wp2_with (first
            | (go_at_call 43; refine (HN.out _).mono ?_; rintro e w1 ⟨rfl, hB1⟩)
            | (at_builtin; refine wpList_append_own _ rfl _ _ 24 rfl w.heap.size 9 is (.string ByteArray.empty) 1 16 Try.underlying24 his hs0 hs1 hs2 rfl (by decide) _ _ _ rfl (World.ownsRow.alloc (HO.out.kept hB1) _) ⟨w1.heap.size, 0, none⟩ 1 1 [.string x] rfl rfl (str_newU _ _) (fun u hu => by simp at hu; subst hu; rfl) ?d3 ?d4 ?d5 ?_))
          case d3 => rw [List.length_map]; unfold maxLen; omega
          case d4 => rw [List.length_map]; omega
          case d5 => exact Nat.le_trans HB.out.size (Nat.le_trans hB1.size (by simp))
          intro v' w2 hown hgrow _
          have hown2 : w2.ownsRow w.heap.size 9 1 v' (Ls.length + 1) (scells (Ls.map B) ++ [.string x]) := by simpa using hown
          have HO2 := hidIt (Own.moreB hown2 HX.out)
          have HB2 := hidIt ((HB.out.trans (hB1.mono HB.out.size)).trans (grown_below (HO.out.kept hB1) (grown_alloc hgrow) (Nat.le_refl _) (Nat.le_trans HB.out.size hB1.size)))
          clear hown hown2 hgrow hB1 HO HB
          go_wp2_with (fail)
          exact ⟨⟨z, g, Ls ++ [join ls], rfl, r5, by simp; omega, HO2, HE2, HB2⟩, by simp [intOf]; omega⟩
    · have g1 : ¬ (q : Int) < (s.size : Int) := by omega
      have HZ : Hid (res = some Ls) := hidIt (by rw [← HE.out, rdN_end (by omega)])
      go_wp2_with (fail)
      go_ret2
      exact ⟨_, by rw [HZ.out]; rfl, by rw [HZ.out]; exact HO.out, HB.out⟩
set_option maxRecDepth 100000 in
set_option maxHeartbeats 2000000 in
theorem impl_Unpacked (s : ByteArray) (w : World) (hs : s.size ≤ 1048576) :
    Calls Try.prog 11 #[.string s] w fun e w' => ∃ v, e = .returned (.tuple #[v, .bool (unpack (bs s)).isSome]) ∧ Own w' w.heap.size v (((unpack (bs s)).getD []).map B) ∧ Below w.heap.size w w' := by
  have HN := hidIt (impl_readNames s w hs)
  have hu := unpack_rdN (bs s)
  cases hr : rdN (bs s) 21 0 [] with
  | none =>
    rw [hr] at HN hu
    have HU : Hid (unpack (bs s) = none) := hidIt hu.symm
    clear hu hr
    go_enter Try.func11, Try.ntmps11
    go_wp2_with (go_at_call 29; refine HN.out.mono ?_; rintro e w1 ⟨v, rfl, hO1, hB1⟩)
    go_ret2
    refine ⟨_, by rw [HU.out]; rfl, by rw [HU.out]; exact (Own.new w1).mono hB1.size, hB1.alloc hB1.size _⟩
  | some Ls =>
    rw [hr] at HN hu
    simp only at hu
    simp only [Option.isSome_some, Option.getD_some] at HN
    go_enter Try.func11, Try.ntmps11
    go_wp2_with (go_at_call 29; refine HN.out.mono ?_; rintro e w1 ⟨v, rfl, hO1, hB1⟩)
    have h20 := rdN_len _ _ _ _ hr (by simp)
    obtain ⟨a, c, hv, _, _, hR, _⟩ := hO1.form
    have HP := hidIt (impl_Packed a c (Ls.map B) w1 hR (by rw [List.length_map]; omega))
    rw [mapB_bL] at HP
    subst hv
    have HO1 := hidIt hO1
    rw [List.length_map] at HO1
    have HB1 := hidIt hB1
    clear hO1 hB1 hr HN h20 hR
    by_cases hp : packB Ls = bs s
    · rw [if_pos hp] at hu
      rw [hp, B_bs] at HP
      have HU : Hid (unpack (bs s) = some Ls) := hidIt hu.symm
      clear hu hp
      refine HP.out.mono ?_
      rintro e w2 ⟨rfl, hB2⟩
      go_wp2_with (fail)
      go_ret2
      exact ⟨_, by rw [HU.out]; rfl, by rw [HU.out]; exact HO1.out.kept hB2, HB1.out.trans (hB2.mono HB1.out.size)⟩
    · rw [if_neg hp] at hu
      have HU : Hid (unpack (bs s) = none) := hidIt hu.symm
      have hne : B (packB Ls) ≠ s := fun e => hp (by rw [← e])
      have hne' := text_neV hne
      clear hu hp hne
      generalize B (packB Ls) = t at *
      refine HP.out.mono ?_
      rintro e w2 ⟨rfl, hB2⟩
      have HB2 := hidIt (HB1.out.trans (hB2.mono HB1.out.size))
      go_wp2_with (fail)
      go_ret2
      exact ⟨_, by rw [HU.out]; rfl, by rw [HU.out]; exact (Own.new w2).mono HB2.out.size, HB2.out.alloc HB2.out.size _⟩
end Go.Proofs.Ytdbldhcelbllgaa.Nm
