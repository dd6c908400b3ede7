/-
  The specification's pieces between the dots; its labels; is a text a label; NameOk.
-/
import Derived.Test.YtceddedlfdgbhaaGreatDoorNameR
import Derived.Test.YtceddedlfdgbhaaGreatDoorNameL
namespace Go.Proofs.YtceddedlfdgbhaaGreatDoor.Nm
open Go.ChangeShapes Go.WideShapes Go.ChangeAt Go.RowKit
/-- The labels of a text, as texts. -/
def LB (l : Bytes) : List ByteArray := (labels l).map B
theorem LB_length (l : Bytes) : (LB l).length = (labels l).length := by rw [LB, List.length_map]
theorem LB_at {l : Bytes} {i : Nat} (h : i < (labels l).length) : bs (sat (LB l) i) = (labels l)[i] := by
  rw [sat_at (by rw [LB_length]; exact h)]
  simp [LB]
theorem LB_sat_mem {l : Bytes} {i : Nat} (h : i < (labels l).length) : bs (sat (LB l) i) ∈ labels l := by
  rw [LB_at h]
  exact List.getElem_mem h
theorem info9 : (Tryz.prog.info? 9).map (fun i => (i.zero, i.size, i.bytes)) = some (some (.string ByteArray.empty), 1, 16) := by kernel_rfl
theorem piece {s : ByteArray} {f i : Nat} (hf : f ≤ i) (hi : i < s.size) (hd : s[i] = 46) (hn : ∀ j, (hj : j < s.size) → f ≤ j → j < i → s[j] ≠ 46) :
    split ((bs s).drop f) = bs (s.extract f i) :: split ((bs s).drop (i + 1)) := by
  have hl : i - f < ((bs s).drop f).length := by rw [List.length_drop, bs_length]; omega
  obtain ⟨e, h⟩ := cut_at (l := (bs s).drop f) (i := i - f) hl (by rw [List.getElem_drop]; simp only [show f + (i - f) = i by omega]; exact hd) (fun j hj hji => by
    rw [List.getElem_drop]
    rw [List.length_drop, bs_length] at hj
    exact hn (f + j) (by omega) (by omega) (by omega))
  rw [bs_extract, e, split_cut h, List.take_left' (by rw [List.length_take]; omega), List.drop_drop, show f + (i - f + 1) = i + 1 by omega]
theorem piece_last {s : ByteArray} {f : Nat} (hn : ∀ j, (hj : j < s.size) → f ≤ j → s[j] ≠ 46) : split ((bs s).drop f) = [bs (s.extract f s.size)] := by
  rw [bs_tail, split_whole]
  refine whole_of (fun j hj => ?_)
  rw [List.getElem_drop]
  rw [List.length_drop, bs_length] at hj
  exact hn (f + j) (by omega) (by omega)
set_option maxRecDepth 100000 in
set_option maxHeartbeats 4000000 in
theorem spec_l1Split (s : ByteArray) (w : World) (hs : s.size ≤ 1000000) :
    Calls Tryz.prog 92 #[.string s, .int .u8 46] w fun e w' => ∃ v, e = .returned v ∧ Own w' w.heap.size v ((split (bs s)).map B) ∧ Below w.heap.size w w' := by
  obtain ⟨i0, hi0, hz0, hz1, hz2⟩ := info_parts info9
  go_enter Tryz.func92, Tryz.ntmps92
  go_wp2_with (fail)
  go_loopw [5, 6, 7] (fun y z u wx => ∃ (f i : Nat) (L : List ByteArray), z = .int .i64 f ∧ u = .int .i64 i ∧ f ≤ i ∧ i ≤ s.size + 1 ∧ L.length ≤ i ∧ Hid (Own wx w.heap.size y L) ∧ Hid (Below w.heap.size w wx) ∧
      Hid (if i ≤ s.size then split (bs s) = L.map bs ++ split ((bs s).drop f) else split (bs s) = L.map bs) ∧ Hid (∀ j, (hj : j < s.size) → f ≤ j → j < i → s[j] ≠ 46)) (fun _ _ u _ => (s.size + 1 - intOf u).toNat)
  case atStart => exact ⟨0, 0, [], rfl, rfl, Nat.le_refl _, by omega, by simp, hidIt (Own.new w), hidIt ((Below.refl _ w).alloc (Nat.le_refl _) _), hidIt (by rw [if_pos (Nat.zero_le _)]; rfl), hidIt (fun j _ _ hj => by omega)⟩
  case round =>
    obtain ⟨f, i, L, rfl, rfl, hf, hi, hLi, HO, HB, HP, HN⟩ := hrel
    obtain ⟨a', c', rfl, hc1, hc2, _⟩ := HO.out.form
    clear hc1 hc2
    rcases Nat.lt_or_ge i s.size with hin | hin
    · have g1 : (i : Int) ≤ (s.size : Int) := by omega
      have g1' : (i : Int) < (s.size : Int) := by omega
      have g2 : ((i : Int) == (s.size : Int)) = false := by simp; omega
      have g3 : (0 : Int) ≤ (f : Int) := by omega
      have g4 : (f : Int) ≤ (i : Int) := by omega
      by_cases hd : s[i] = 46
      · have hd' : (((s[i]).toNat : Int) == 46) = true := by rw [hd]; rfl
        have hd'' : (s[i]).toNat = 46 := by rw [hd]; rfl
        go_wp2_with (first
          | (at_builtin; refine wpList_append_own _ rfl _ _ 121 rfl w.heap.size 9 i0 (.string ByteArray.empty) 1 16 Tryz.underlying121 hi0 hz0 hz1 hz2 rfl (by decide) _ _ _ rfl (World.ownsRow.alloc HO.out _) ⟨wr.heap.size, 0, none⟩ 1 1 [.string (s.extract f i)] rfl rfl ?c1 ?c2 ?c3 ?c4 ?c5 ?_)
          | fail)
        case c1 =>
          intro j u hj
          match j, hj with
          | 0, hj => simp at hj; subst hj; simp [Addr.add]
        case c2 => intro u hu; simp at hu; subst hu; rfl
        case c3 => unfold maxLen; omega
        case c4 => omega
        case c5 => have := HB.out.size; simp; omega
        · intro v' w3 hown' hgrow _
          have HO3 := hidIt (Own.more hown')
          have HB3 := hidIt ((HB.out.alloc HB.out.size _).trans (grown_below (HO.out.alloc _) hgrow (Nat.le_refl _) (by have := HB.out.size; simp; omega)))
          clear hown' hgrow
          go_wp2_with (fail)
          refine ⟨⟨i + 1, i + 1, L ++ [s.extract f i], by simp, by simp, Nat.le_refl _, by omega, by simp; omega, HO3, HB3, hidIt ?_, hidIt (fun j _ _ hj => by omega)⟩, by simp [intOf]; omega⟩
          have := HP.out
          rw [if_pos (by omega)] at this
          rw [if_pos (by omega), this, piece hf hin hd HN.out]
          simp
      · have hd' : (((s[i]).toNat : Int) == 46) = false := by
          refine beq_eq_false_iff_ne.2 (fun k => hd (UInt8.toNat_inj.1 ?_))
          have : ((s[i]).toNat : Int) = ((46 : UInt8).toNat : Int) := k
          omega
        go_wp2_with (fail)
        refine ⟨⟨f, i + 1, L, rfl, by simp, by omega, by omega, by omega, HO, HB, hidIt ?_, hidIt (fun j hj h1 h2 => ?_)⟩, by simp [intOf]; omega⟩
        · have := HP.out
          rw [if_pos (by omega)] at this
          rw [if_pos (by omega)]
          exact this
        · rcases Nat.lt_or_ge j i with h' | h'
          · exact HN.out j hj h1 h'
          · have : j = i := by omega
            subst this
            exact hd
    · rcases Nat.lt_or_ge s.size i with hin2 | hin2
      · have g1 : ¬ (i : Int) ≤ (s.size : Int) := by omega
        go_wp2_with (fail)
        go_ret
        refine ⟨_, rfl, ?_, HB.out⟩
        have := HP.out
        rw [if_neg (by omega)] at this
        rw [this, List.map_map, show (B ∘ bs : ByteArray → ByteArray) = id from funext (fun x => B_bs x), List.map_id]
        exact HO.out
      · have e : i = s.size := by omega
        subst e
        have g3 : (0 : Int) ≤ (f : Int) := by omega
        have g4 : (f : Int) ≤ (s.size : Int) := by omega
        go_wp2_with (first
          | (at_builtin; refine wpList_append_own _ rfl _ _ 121 rfl w.heap.size 9 i0 (.string ByteArray.empty) 1 16 Tryz.underlying121 hi0 hz0 hz1 hz2 rfl (by decide) _ _ _ rfl (World.ownsRow.alloc HO.out _) ⟨wr.heap.size, 0, none⟩ 1 1 [.string (s.extract f s.size)] rfl rfl ?c1 ?c2 ?c3 ?c4 ?c5 ?_)
          | fail)
        case c1 =>
          intro j u hj
          match j, hj with
          | 0, hj => simp at hj; subst hj; simp [Addr.add]
        case c2 => intro u hu; simp at hu; subst hu; rfl
        case c3 => unfold maxLen; omega
        case c4 => omega
        case c5 => have := HB.out.size; simp; omega
        · intro v' w3 hown' hgrow _
          have HO3 := hidIt (Own.more hown')
          have HB3 := hidIt ((HB.out.alloc HB.out.size _).trans (grown_below (HO.out.alloc _) hgrow (Nat.le_refl _) (by have := HB.out.size; simp; omega)))
          clear hown' hgrow
          go_wp2_with (fail)
          refine ⟨⟨s.size + 1, s.size + 1, L ++ [s.extract f s.size], by simp, by simp, Nat.le_refl _, by omega, by simp; omega, HO3, HB3, hidIt ?_, hidIt (fun j _ _ hj => by omega)⟩, by simp [intOf]⟩
          have := HP.out
          rw [if_pos (by omega)] at this
          rw [if_neg (by omega), this, piece_last (fun j hj h1 => HN.out j hj h1 hj)]
          simp
set_option maxHeartbeats 1000000 in
theorem spec_l5Labels (s : ByteArray) (w : World) (hs : s.size ≤ 1000000) :
    Calls Tryz.prog 75 #[.string s] w fun e w' => ∃ v, e = .returned v ∧ Own w' w.heap.size v (LB (bs s)) ∧ Below w.heap.size w w' := by
  by_cases h0 : s = ByteArray.empty
  · subst h0
    go_enter Tryz.func75, Tryz.ntmps75
    go_wp2_with (fail)
    go_ret
    exact ⟨_, rfl, Own.new w, (Below.refl _ w).alloc (Nat.le_refl _) _⟩
  · have h1 := not_empty h0
    have h2 := filled h0
    have e : (split (bs s)).map B = LB (bs s) := by rw [LB, labels_cons (fun k => h0 (empty_of k))]
    have hL := spec_l1Split s w hs
    rw [e] at hL
    go_enter Tryz.func75, Tryz.ntmps75
    go_wp2_with (go_at_call 92; refine hL.mono ?_; rintro e w' ⟨v, rfl, ho, hb⟩)
    go_ret
    exact ⟨_, rfl, ho, hb⟩
end Go.Proofs.YtceddedlfdgbhaaGreatDoor.Nm
