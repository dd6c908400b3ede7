/-
  What the laws do with a list of texts: its measure, its copy; the specification's test of a list of names, and its Plain.
-/
import Derived.Test.YtdbldhcelbllgaaPackI
import Derived.Test.YtdbldhcelbllgaaNameQ
import Derived.Test.YtdbldhcelbllgaaNameT
import Derived.Laws.OwnMore
namespace Go.Proofs.Ytdbldhcelbllgaa.Nm
open Go.ChangeShapes Go.WideShapes Go.ChangeAt Go.RowKit
set_option maxRecDepth 100000 in
set_option maxHeartbeats 2000000 in
theorem szStringS_any (a : Option Addr) (cap : Nat) (L : List ByteArray) (l : Int) (w : World) (h : Rd w a L) (hl : L.length ≤ 9223372036854775807) (hs : ∀ i, i < L.length → (sat L i).size ≤ 9223372036854775807) (h0 : 0 ≤ l) (h1 : l ≤ 1048576) :
    Calls Try.prog 17 #[.slice a L.length cap, .int .i64 l] w fun e w' => ∃ r : Int, e = .returned (.int .i64 r) ∧ r ≤ l ∧ (0 ≤ r → L.length ≤ 1048576) ∧ w' = w := by
  generalize hn : L.length = n at *
  have HR := hidIt h
  have HN := hidIt hn
  have HS := hidIt hs
  clear h hn hs
  have h2 : -9223372036854775808 ≤ l - (n : Int) := by omega
  have h3 : l - (n : Int) ≤ 9223372036854775807 := by omega
  by_cases hs2 : l - (n : Int) < 0
  · go_enter Try.func17, Try.ntmps17
    go_wp2
    go_ret
    exact ⟨-1, rfl, by omega, fun h => by omega, rfl⟩
  · have hn2 : n ≤ 1048576 := by omega
    go_enter Try.func17, Try.ntmps17
    go_wp2_with (fail)
    go_loopw [1, 5] (fun z y wx => ∃ (i : Nat) (r : Int), y = .int .i64 i ∧ z = .int .i64 r ∧ 0 ≤ r ∧ r ≤ l ∧ i ≤ n ∧ Hid (wx = w)) (fun _ y _ => (n - intOf y).toNat)
    case atStart => exact ⟨0, _, rfl, rfl, by omega, by omega, by omega, hidIt rfl⟩
    case round =>
      obtain ⟨i, r, rfl, rfl, r0, r1, hi, HW⟩ := hrel
      have ew := HW.out
      subst ew
      by_cases hin : i < n
      · have hin' : (i : Int) < (n : Int) := by omega
        obtain ⟨b, off, rfl, c0⟩ := HR.out.cell i (by rw [HN.out]; exact hin)
        have hsz := HS.out i hin
        generalize sat L i = s at c0 hsz
        have g1 : -9223372036854775808 ≤ r - (s.size : Int) := by omega
        have g2 : r - (s.size : Int) ≤ 9223372036854775807 := by omega
        by_cases hneg : r - (s.size : Int) < 0
        · go_wp2_with (fail)
          go_ret
          first | exact ⟨-1, rfl, by omega, fun h => by omega, rfl⟩ | exact ⟨-1, rfl, by omega, rfl⟩
        · go_wp2_with (fail)
          exact ⟨⟨i + 1, r - (s.size : Int), by simp, rfl, by omega, by omega, by omega, by first | exact hidIt rfl | exact hidIt trivial⟩, by simp [intOf]; omega⟩
      · have hin' : ¬ (i : Int) < (n : Int) := by omega
        go_wp2_with (fail)
        go_ret
        first | exact ⟨r, rfl, r1, fun _ => hn2, rfl⟩ | exact ⟨r, rfl, r1, rfl⟩
theorem info9t : (Try.prog.info? 9).map (fun i => (i.zero, i.size, i.bytes)) = some (some (.string ByteArray.empty), 1, 16) := by kernel_rfl
theorem scells_zero (n : Nat) : scells (List.replicate n ByteArray.empty) = (madeCells #[.string ByteArray.empty] n).toList := by rw [toList_madeCells_one, scells, List.map_replicate]
set_option maxRecDepth 100000 in
set_option maxHeartbeats 2000000 in
theorem toStringS_any (a : Option Addr) (cap : Nat) (L : List ByteArray) (w : World) (h : Rd w a L) (hl : L.length ≤ 1048576) :
    Calls Try.prog 18 #[.slice a L.length cap] w fun e w' => ∃ v, e = .returned v ∧ Own w' w.heap.size v L ∧ Below w.heap.size w w' := by
  generalize hn : L.length = n at *
  obtain ⟨i0, hi, hz0, hz1, hz2⟩ := info_parts info9t
  have HR := hidIt h
  have HN := hidIt hn
  clear h hn
  go_enter Try.func18, Try.ntmps18
  go_wp2_with (first
    | (at_make; refine wpList_make_full _ rfl _ _ 24 rfl w.heap.size 9 i0 (.string ByteArray.empty) 1 Try.underlying24 hi hz0 hz1 _ _ _ _ n rfl rfl (by omega) (by omega) (by rw [hz2]; omega) (by unfold maxLen; omega) (Nat.le_refl _) ?_)
    | fail)
  intro w1 hown hgrow
  have HO : Hid (Own w1 w.heap.size (.slice (some ⟨w.heap.size, 0, none⟩) n n) (List.replicate n ByteArray.empty)) := by
    refine hidIt ?_
    unfold Own
    rw [List.length_replicate, scells_zero]
    exact hown
  have HB := hidIt ((Below.refl w.heap.size w).grown hgrow (Nat.le_refl _) (fun k hk => by cases hk))
  clear hown hgrow
  go_wp2_with (fail)
  go_loopw [4] (fun y wx => ∃ (i : Nat) (M : List ByteArray), y = .int .i64 i ∧ i ≤ n ∧ M.length = n ∧ Hid (∀ j, j < i → sat M j = sat L j) ∧ Own wx w.heap.size (.slice (some ⟨w.heap.size, 0, none⟩) n n) M ∧ Below w.heap.size w wx) (fun y _ => (n - intOf y).toNat)
  case atStart => exact ⟨0, _, rfl, by omega, by simp, hidIt (fun j hj => by omega), HO.out, HB.out⟩
  case round =>
    obtain ⟨i, M, rfl, hin0, hM, hE, hO, hB⟩ := hrel
    have HRx := hidIt (HR.out.kept hB)
    have HBx := hidIt hB
    have HOx := hidIt hO
    have HM := hidIt hM
    clear hB hO HO HB hM
    by_cases hin : i < n
    · have hin' : (i : Int) < (n : Int) := by omega
      obtain ⟨b, off, rfl, c0⟩ := HRx.out.cell i (by rw [HN.out]; exact hin)
      generalize hx : sat L i = s at c0
      have HX := hidIt hx
      clear hx
      have hiM : i < M.length := by rw [HM.out]; exact hin
      have HO3 := hidIt (HOx.out.set (i := i) s)
      obtain ⟨c2, f0⟩ := HOx.out.at hiM
      clear HRx HOx
      have HMi := hidIt hiM
      clear hiM
      go_wp2_with (fail)
      refine ⟨⟨i + 1, _, by simp, by omega, by rw [List.length_set]; exact HM.out, hidIt (fun j hj => ?_), HO3.out, HBx.out.setCell (by simp) _⟩, by simp [intOf]; omega⟩
      rw [sat_set HMi.out]
      split
      · next e => subst e; exact HX.out.symm
      · exact hE.out j (by omega)
    · have hin' : ¬ (i : Int) < (n : Int) := by omega
      have e : M = L := ext_sat (by rw [HM.out, HN.out]) (fun j hj => hE.out j (by rw [HM.out] at hj; omega))
      subst e
      go_wp2_with (fail)
      go_ret
      exact ⟨_, rfl, HOx.out, HBx.out⟩
set_option maxRecDepth 100000 in
set_option maxHeartbeats 2000000 in
theorem spec_l6Names (a : Option Addr) (cap : Nat) (L : List ByteArray) (w : World) (h : Rd w a L) (hl : L.length ≤ 1000000000) :
    Calls Try.prog 32 #[.slice a L.length cap] w fun e w' => e = .returned (.bool (okN (bL L))) ∧ Below w.heap.size w w' := by
  have HR := hidIt h
  clear h
  go_enter Try.func32, Try.ntmps32
  go_wp2_with (fail)
  go_loopw [3] (fun y wx => ∃ i : Nat, y = .int .i64 i ∧ i ≤ L.length ∧ Hid (((bL L).take i).all okB = true) ∧ Hid (Below w.heap.size w wx)) (fun y _ => (L.length - intOf y).toNat)
  case atStart => exact ⟨0, rfl, by omega, hidIt rfl, hidIt (Below.refl _ _)⟩
  case round =>
    obtain ⟨i, rfl, hi, HA, HB⟩ := hrel
    rcases Nat.lt_or_ge i L.length with hin | hin
    · have g2 : (i : Int) < (L.length : Int) := by omega
      obtain ⟨b, off, rfl, c0⟩ := (HR.out.kept HB.out).cell i hin
      have HK := hidIt (spec_NameOk (sat L i))
      cases hk : okB (bs (sat L i)) with
      | false =>
        rw [hk] at HK
        go_wp2_with (go_at_call 37; refine (HK.out _).mono ?_; rintro e w1 ⟨rfl, hB1⟩)
        go_ret
        refine ⟨?_, HB.out.trans (hB1.mono HB.out.size)⟩
        unfold okN
        rw [all_bad (i := i) (by rw [bL_length]; exact hin) (by rw [bL_at hin]; exact hk), Bool.false_and]
        rfl
      | true =>
        rw [hk] at HK
        go_wp2_with (go_at_call 37; refine (HK.out _).mono ?_; rintro e w1 ⟨rfl, hB1⟩)
        refine ⟨⟨i + 1, by simp, by omega, hidIt (all_take (by rw [bL_length]; exact hin) HA.out (by rw [bL_at hin]; exact hk)), hidIt (HB.out.trans (hB1.mono HB.out.size))⟩, by simp [intOf]; omega⟩
    · have g2 : ¬ (i : Int) < (L.length : Int) := by omega
      have e : i = L.length := by omega
      have HL : Hid (decide ((L.length : Int) ≤ 20) = okN (bL L)) := by
        refine hidIt ?_
        have := HA.out
        rw [e, List.take_of_length_le (by rw [bL_length]; exact Nat.le_refl _)] at this
        unfold okN
        rw [this, Bool.true_and, bL_length]
        simp only [decide_eq_decide]
        omega
      clear e
      go_wp2_with (fail)
      go_ret
      exact ⟨by rw [← HL.out]; rfl, HB.out⟩
theorem plainN_one (l : Bytes) (L : List Bytes) : plainN (l :: L) = (if l = [] then 1 else l.length + 2) + plainN L := rfl
set_option maxRecDepth 100000 in
set_option maxHeartbeats 4000000 in
theorem spec_Plain (a : Option Addr) (cap : Nat) (L : List ByteArray) (w : World) (h : Rd w a L) (hl : L.length ≤ 1000000000) :
    Calls Try.prog 16 #[.slice a L.length cap] w fun e w' => e = .returned (.int .i64 (plainB (bL L))) ∧ Below w.heap.size w w' := by
  have HR := hidIt h
  have HP := hidIt (spec_l6Names a cap L w h hl)
  clear h
  cases hk : okN (bL L) with
  | false =>
    rw [hk] at HP
    have e : plainB (bL L) = -1 := by rw [plainB, hk]; rfl
    rw [e]
    clear hk e
    go_enter Try.func16, Try.ntmps16
    go_wp2_with (go_at_call 32; refine HP.out.mono ?_; rintro e w1 ⟨rfl, hB1⟩)
    go_ret
    exact ⟨rfl, hB1⟩
  | true =>
    rw [hk] at HP
    obtain ⟨ho, h20⟩ := okN_facts hk
    rw [bL_length] at h20
    have e : plainB (bL L) = (plainN (bL L) : Int) := by rw [plainB, if_pos hk]
    rw [e]
    have HO := hidIt ho
    clear hk e ho
    go_enter Try.func16, Try.ntmps16
    go_wp2_with (go_at_call 32; refine HP.out.mono ?_; rintro e w1 ⟨rfl, hB1⟩)
    have HB1 := hidIt hB1
    clear hB1 HP
    go_wp2_with (fail)
    go_loopw [3, 4] (fun z y wx => ∃ i n : Nat, y = .int .i64 i ∧ z = .int .i64 n ∧ i ≤ L.length ∧ Hid (n + plainN ((bL L).drop i) = plainN (bL L)) ∧ n ≤ 62 * i ∧ Hid (wx = w1)) (fun _ y _ => (L.length - intOf y).toNat)
    case atStart => exact ⟨0, 0, rfl, rfl, by omega, hidIt (by simp), by simp, hidIt rfl⟩
    case round =>
      obtain ⟨i, n, rfl, rfl, hi, HE, hc, HW⟩ := hrel
      have ew := HW.out
      subst ew
      rcases Nat.lt_or_ge i L.length with hin | hin
      · have g2 : (i : Int) < (L.length : Int) := by omega
        obtain ⟨b, off, rfl, c0⟩ := (HR.out.kept HB1.out).cell i hin
        have hok := HO.out (bs (sat L i)) (by rw [← bL_at hin]; exact List.getElem_mem _)
        have hrm := room_le hok
        rw [room_labels] at hrm
        have HD := HE.out
        rw [drop_bL hin, plainN_one] at HD
        have HDD := hidIt HD
        clear HD hok HE
        generalize sat L i = s at *
        have hbl := bs_length s
        by_cases h0 : s = ByteArray.empty
        · subst h0
          have HZ : n + 1 + plainN ((bL L).drop (i + 1)) = plainN (bL L) := by
            have := HDD.out
            rw [if_pos (show bs ByteArray.empty = [] from rfl)] at this
            omega
          have HY := hidIt HZ
          clear HZ HDD hrm hbl
          go_wp2_with (fail)
          refine ⟨⟨i + 1, n + 1, by simp, by congr 1; omega, by omega, HY, by omega, by first | exact hidIt rfl | exact hidIt trivial⟩, by simp [intOf]; omega⟩
        · have h1 := not_empty h0
          have h2 := filled h0
          have hne : bs s ≠ [] := fun e => h0 (empty_of e)
          rw [if_neg hne] at hrm
          have HZ : n + s.size + 2 + plainN ((bL L).drop (i + 1)) = plainN (bL L) := by
            have := HDD.out
            rw [if_neg hne] at this
            omega
          have HY := hidIt HZ
          rw [hbl] at hrm
          clear HZ HDD hbl hne h0
          go_wp2_with (fail)
          exact ⟨⟨i + 1, n + s.size + 2, by simp, by simp, by omega, HY, by omega, by first | exact hidIt rfl | exact hidIt trivial⟩, by simp [intOf]; omega⟩
      · have g2 : ¬ (i : Int) < (L.length : Int) := by omega
        have e : i = L.length := by omega
        have he := HE.out
        rw [e, List.drop_of_length_le (by simp)] at he
        have he' : n = plainN (bL L) := he
        have HE' := hidIt he'
        clear he he' e HE
        go_wp2_with (fail)
        go_ret
        exact ⟨by rw [← HE'.out]; rfl, HB1.out⟩
end Go.Proofs.Ytdbldhcelbllgaa.Nm
