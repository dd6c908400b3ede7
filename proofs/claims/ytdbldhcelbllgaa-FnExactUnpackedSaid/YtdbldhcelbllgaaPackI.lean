/-
  The program's Packed and Plain: what they answer of any list of texts.
-/
import Derived.Test.YtdbldhcelbllgaaPackN
import Derived.Test.YtdbldhcelbllgaaAllN
namespace Go.Proofs.Ytdbldhcelbllgaa.Nm
open Go.ChangeShapes Go.WideShapes Go.ChangeAt Go.RowKit
theorem okN_long {L : List Bytes} (h : 20 < L.length) : okN L = false := by
  unfold okN
  rw [decide_eq_false (by omega), Bool.and_false]
theorem packL_alone : ∀ (ls : List Bytes) (b : Bytes) (C : List (Bytes × Nat)), Good ls → (∀ e ∈ C, (join ls).length < e.1.length) → (packL b C ls).1.length = b.length + room ls
  | [], b, C, _, _ => by simp [packL_nil, room]
  | l :: ls, b, C, hg, hC => by
    have hl := label_facts (hg l (by simp))
    have hf : find C (join (l :: ls)) = none := by
      cases hf : find C (join (l :: ls)) with
      | none => rfl
      | some p => exact absurd (hC _ (find_mem hf)) (by simp)
    have hjl := join_longer l ls hl.1
    rw [packL_none hf, packL_alone ls _ _ (fun x hx => hg x (by simp [hx])) (fun e he => by
      rcases List.mem_append.1 he with h | h
      · have := hC e h; omega
      · simp at h; subst h; exact hjl)]
    simp only [List.length_append, List.length_cons, room]
    omega
theorem room_le {l : Bytes} (h : okB l = true) : room (labels l) ≤ 62 := by
  have h60 : l.length ≤ 60 := by
    unfold okB at h
    simp only [Bool.and_eq_true, decide_eq_true_eq] at h
    exact h.1
  rw [room_labels]
  split <;> omega
theorem drop_map {L : List ByteArray} {i : Nat} (h : i < L.length) : ((bL L).map labels).drop i = labels (bs (sat L i)) :: ((bL L).map labels).drop (i + 1) := by
  rw [List.drop_eq_getElem_cons (by simpa using h)]
  congr 1
  rw [sat_at h]
  simp
theorem drop_bL {L : List ByteArray} {i : Nat} (h : i < L.length) : (bL L).drop i = bs (sat L i) :: (bL L).drop (i + 1) := by
  rw [List.drop_eq_getElem_cons (by simpa using h), bL_at h]
theorem packN_cons (b : Bytes) (R : List (Bytes × Nat)) (n : List Bytes) (ns : List (List Bytes)) : packN b R (n :: ns) = packN (packL b R n).1 (packL b R n).2 ns := rfl
theorem plainN_cons (l : Bytes) (L : List Bytes) : plainN (l :: L) = room (labels l) + plainN L := by rw [room_labels]; rfl
set_option maxRecDepth 100000 in
set_option maxHeartbeats 2000000 in
theorem impl_packable (a : Option Addr) (cap : Nat) (L : List ByteArray) (w : World) (h : Rd w a L) (hl : L.length ≤ 1000000000) :
    Calls Try.prog 24 #[.slice a L.length cap] w fun e w' => e = .returned (.bool (okN (bL L))) ∧ Below w.heap.size w w' := by
  by_cases h20 : 20 < L.length
  · have g1 : ¬ (L.length : Int) ≤ (20 : Int) := by omega
    rw [okN_long (by rw [bL_length]; exact h20)]
    go_enter Try.func24, Try.ntmps24
    go_wp2_with (fail)
    go_ret
    exact ⟨rfl, Below.refl _ _⟩
  · have g1 : (L.length : Int) ≤ (20 : Int) := by omega
    have CA := hidIt (impl_allNames a cap L w h hl)
    have e : okN (bL L) = (bL L).all okB := by
      unfold okN
      rw [decide_eq_true (by rw [bL_length]; omega), Bool.and_true]
    rw [e]
    clear e h
    generalize (bL L).all okB = r at CA ⊢
    go_enter Try.func24, Try.ntmps24
    go_wp2_with (fail)
    refine CA.out.mono ?_
    rintro e w1 ⟨rfl, k1⟩
    go_wp2_with (fail)
    go_ret
    exact ⟨rfl, k1⟩
set_option maxRecDepth 100000 in
set_option maxHeartbeats 4000000 in
theorem impl_Packed (a : Option Addr) (cap : Nat) (L : List ByteArray) (w : World) (h : Rd w a L) (hl : L.length ≤ 1000000000) :
    Calls Try.prog 9 #[.slice a L.length cap] w fun e w' => e = .returned (.string (B (packB (bL L)))) ∧ Below w.heap.size w w' := by
  have HR := hidIt h
  have HP := hidIt (impl_packable a cap L w h hl)
  clear h
  cases hk : okN (bL L) with
  | false =>
    rw [hk] at HP
    have e : packB (bL L) = [] := by rw [packB, hk]; rfl
    rw [e]
    clear hk e
    go_enter Try.func9, Try.ntmps9
    go_wp2_with (go_at_call 24; refine HP.out.mono ?_; rintro e w1 ⟨rfl, hB1⟩)
    go_ret
    exact ⟨rfl, hB1⟩
  | true =>
    rw [hk] at HP
    obtain ⟨ho, h20⟩ := okN_facts hk
    rw [bL_length] at h20
    have e : packB (bL L) = pack (bL L) := by rw [packB, if_pos hk]
    rw [e]
    have HO := hidIt ho
    clear hk e ho
    go_enter Try.func9, Try.ntmps9
    go_wp2_with (go_at_call 24; refine HP.out.mono ?_; rintro e w1 ⟨rfl, hB1⟩)
    have HB1 := hidIt hB1
    clear hB1 HP
    go_wp2_with (go_at_call 25; refine (newPacker_any _).mono ?_; rintro e w2 ⟨pb, rfl, hK2, hB2⟩)
    have HK2 := hidIt hK2
    have HB2 := hidIt (HB1.out.trans (hB2.mono HB1.out.size))
    have z2 := hB2.size
    have z1 := HB1.out.size
    clear hB2 hK2
    go_wp2_with (fail)
    go_loopw [12] (fun y wx => ∃ (i : Nat) (c : Bytes) (Q : List (Bytes × Nat)), y = .int .i64 i ∧ i ≤ L.length ∧ Hid (Pk wx w1.heap.size pb c Q) ∧ Hid (packN c Q (((bL L).map labels).drop i) = pack (bL L)) ∧ c.length ≤ 62 * i ∧ Q.length ≤ 6 * i ∧ Hid (Below w1.heap.size w2 wx)) (fun y _ => (L.length - intOf y).toNat)
    case atStart => exact ⟨0, [], [], rfl, by omega, HK2, hidIt rfl, by simp, by simp, hidIt (Below.refl _ _)⟩
    case round =>
      obtain ⟨i, c, Q, rfl, hi, HK, HE, hc, hQ, HB⟩ := hrel
      clear HK2
      have HW : Hid (Below w.heap.size w wr) := hidIt (HB2.out.trans (HB.out.mono z1))
      rcases Nat.lt_or_ge i L.length with hin | hin
      · have g2 : (i : Int) < (L.length : Int) := by omega
        obtain ⟨b, off, rfl, c0⟩ := (HR.out.kept HW.out).cell i hin
        have hok := HO.out (bs (sat L i)) (by rw [← bL_at hin]; exact List.getElem_mem _)
        obtain ⟨hg, h6⟩ := ok_labels hok
        have hrm := room_le hok
        have hsz := packL_size (labels (bs (sat L i))) c Q hg
        have HN := hidIt (name_any w1.heap.size pb c Q (labels (bs (sat L i))) wr HK.out hg h6 (by omega) (by omega) (Nat.le_trans z2 HB.out.size))
        rw [join_labels, B_bs] at HN
        have hs1 : (packL c Q (labels (bs (sat L i)))).1.length ≤ 62 * (i + 1) := by omega
        have hs2 : (packL c Q (labels (bs (sat L i)))).2.length ≤ 6 * (i + 1) := by omega
        clear hok hg h6 hrm hsz
        go_wp2_with (go_at_call 26; refine HN.out.mono ?_; rintro e w3 ⟨rfl, hK3, hB3⟩)
        refine ⟨⟨i + 1, _, _, by simp, by omega, hidIt hK3, hidIt ?_, hs1, hs2, hidIt (HB.out.trans hB3)⟩, by simp [intOf]; omega⟩
        rw [← HE.out, drop_map hin, packN_cons]
      · have g2 : ¬ (i : Int) < (L.length : Int) := by omega
        have e : i = L.length := by omega
        have he := HE.out
        rw [e, List.drop_of_length_le (by simp)] at he
        have he' : c = pack (bL L) := he
        obtain ⟨le, v, mb, n, D, hb, hm, ho, hM, hn, hP⟩ := HK.out
        have c0 : wr.cell? ⟨pb, 0, none⟩ = some v := by rw [Go.Lib.cell_of_heap hb]; rfl
        have hcv := (Rw.of_own ho).back
        rw [he'] at hcv
        clear hb ho hM hP he he' e HE
        go_wp2_with (fail)
        go_ret
        exact ⟨rfl, HW.out⟩
set_option maxRecDepth 100000 in
set_option maxHeartbeats 4000000 in
theorem impl_Plain (a : Option Addr) (cap : Nat) (L : List ByteArray) (w : World) (h : Rd w a L) (hl : L.length ≤ 1000000000) :
    Calls Try.prog 12 #[.slice a L.length cap] w fun e w' => e = .returned (.int .i64 (plainB (bL L))) ∧ Below w.heap.size w w' := by
  have HR := hidIt h
  have HP := hidIt (impl_packable a cap L w h hl)
  clear h
  cases hk : okN (bL L) with
  | false =>
    rw [hk] at HP
    have e : plainB (bL L) = -1 := by rw [plainB, hk]; rfl
    rw [e]
    clear hk e
    go_enter Try.func12, Try.ntmps12
    go_wp2_with (go_at_call 24; refine HP.out.mono ?_; rintro e w1 ⟨rfl, hB1⟩)
    go_ret
    exact ⟨rfl, hB1⟩
  | true =>
    rw [hk] at HP
    obtain ⟨ho, h20⟩ := okN_facts hk
    rw [bL_length] at h20
    have e : plainB (bL L) = (plainN (bL L) : Int) := by rw [plainB, if_pos hk]
    rw [e]
    have HO := hidIt ho
    clear hk e ho
    go_enter Try.func12, Try.ntmps12
    go_wp2_with (go_at_call 24; refine HP.out.mono ?_; rintro e w1 ⟨rfl, hB1⟩)
    have HB1 := hidIt hB1
    clear hB1 HP
    go_wp2_with (go_at_call 25; refine (newPacker_any _).mono ?_; rintro e w2 ⟨pb, rfl, hK2, hB2⟩)
    have HK2 := hidIt hK2
    have HB2 := hidIt (HB1.out.trans (hB2.mono HB1.out.size))
    have z2 := hB2.size
    have z1 := HB1.out.size
    clear hB2 hK2
    go_wp2_with (fail)
    go_loopw [12] (fun y wx => ∃ (i : Nat) (c : Bytes) (Q : List (Bytes × Nat)), y = .int .i64 i ∧ i ≤ L.length ∧ Hid (Pk wx w1.heap.size pb c Q) ∧ Hid (c.length + plainN ((bL L).drop i) = plainN (bL L)) ∧ c.length ≤ 62 * i ∧ Hid (Below w1.heap.size w2 wx)) (fun y _ => (L.length - intOf y).toNat)
    case atStart => exact ⟨0, [], [], rfl, by omega, HK2, hidIt (by simp), by simp, hidIt (Below.refl _ _)⟩
    case round =>
      obtain ⟨i, c, Q, rfl, hi, HK, HE, hc, HB⟩ := hrel
      clear HK2
      have HW : Hid (Below w.heap.size w wr) := hidIt (HB2.out.trans (HB.out.mono z1))
      rcases Nat.lt_or_ge i L.length with hin | hin
      · have g2 : (i : Int) < (L.length : Int) := by omega
        obtain ⟨b, off, rfl, c0⟩ := (HR.out.kept HW.out).cell i hin
        have hok := HO.out (bs (sat L i)) (by rw [← bL_at hin]; exact List.getElem_mem _)
        obtain ⟨hg, h6⟩ := ok_labels hok
        have hrm := room_le hok
        have hsz := packL_alone (labels (bs (sat L i))) c [] hg (by simp)
        have HG := hidIt hg
        have HN := hidIt (fun wx (hx : Pk wx w1.heap.size pb c []) (hy : w1.heap.size ≤ wx.heap.size) => name_any w1.heap.size pb c [] (labels (bs (sat L i))) wx hx hg h6 (by omega) (by simp; omega) hy)
        rw [join_labels, B_bs] at HN
        have HZ := hidIt hsz
        clear hok hg hsz
        go_wp2_with (go_at_call 30; refine (forget_any _ pb c Q _ HK.out).mono ?_; rintro e w3 ⟨rfl, hK3, hB3⟩)
        have HK3 := hidIt hK3
        have HB3 := hidIt (HB.out.trans hB3)
        clear hK3 hB3
        go_wp2_with (go_at_call 26; refine (HN.out _ HK3.out (Nat.le_trans z2 HB3.out.size)).mono ?_; rintro e w4 ⟨rfl, hK4, hB4⟩)
        refine ⟨⟨i + 1, _, _, by simp, by omega, hidIt hK4, hidIt ?_, by rw [HZ.out]; omega, hidIt (HB3.out.trans hB4)⟩, by simp [intOf]; omega⟩
        rw [HZ.out, ← HE.out, drop_bL hin, plainN_cons]
        omega
      · have g2 : ¬ (i : Int) < (L.length : Int) := by omega
        have e : i = L.length := by omega
        have he := HE.out
        rw [e, List.drop_of_length_le (by simp)] at he
        have he' : c.length = plainN (bL L) := he
        obtain ⟨le, v, mb, n, D, hb, hm, ho, hM, hn, hP⟩ := HK.out
        have c0 : wr.cell? ⟨pb, 0, none⟩ = some v := by rw [Go.Lib.cell_of_heap hb]; rfl
        obtain ⟨a', cap', rfl⟩ := own_form ho
        have HE' := hidIt he'
        clear hb ho hM hP he he' e HE
        go_wp2_with (fail)
        go_ret
        exact ⟨by rw [← HE'.out]; rfl, HW.out⟩
end Go.Proofs.Ytdbldhcelbllgaa.Nm
