/-
  NameOk of the program.
-/
import Derived.Test.YtceddedlfdgbhaaGreatDoorNameK
namespace Go.Proofs.YtceddedlfdgbhaaGreatDoor.Nm
open Go.ChangeShapes Go.WideShapes Go.ChangeAt Go.RowKit Go.Shelf
attribute [local go_sem] Oper.semAt_some
theorem ok_many {l : Bytes} (h : 6 < (labels l).length) : okB l = false := by
  unfold okB
  rw [decide_eq_false (p := (labels l).length ≤ 6) (by omega), Bool.and_false, Bool.and_false]
theorem ok_bad {l p : Bytes} (h : p ∈ labels l) (hp : labelOk p = false) : okB l = false := by
  unfold okB
  have : (labels l).all labelOk = false := by
    rw [List.all_eq_false]
    exact ⟨p, h, by rw [hp]; simp⟩
  rw [this, Bool.false_and, Bool.and_false]
theorem ok_good {l : Bytes} (h0 : l.length ≤ 60) (h1 : (labels l).length ≤ 6) (h2 : ∀ p ∈ labels l, labelOk p = true) : okB l = true := by
  unfold okB
  rw [decide_eq_true h0, decide_eq_true h1, List.all_eq_true.2 h2]
  rfl
theorem tx_bad {l : Bytes} {xs pre : List Tx} (hxs : txs xs = labels l) (hpre : pre <+: xs) (h : 6 < pre.length ∨ ∃ x ∈ pre, labelOk (bs x.1) = false) : okB l = false := by
  rcases h with h | ⟨x, hx, h⟩
  · refine ok_many ?_
    rw [← hxs, txs, List.length_map]
    exact Nat.lt_of_lt_of_le h hpre.length_le
  · exact ok_bad (by rw [← hxs]; exact List.mem_map.2 ⟨x, hpre.subset hx, rfl⟩) h
theorem tx_good {l : Bytes} {xs : List Tx} (h0 : l.length ≤ 60) (hxs : txs xs = labels l) (h1 : xs.length ≤ 6) (h2 : ∀ x ∈ xs, labelOk (bs x.1) = true) : okB l = true := by
  refine ok_good h0 (by rw [← hxs, txs, List.length_map]; exact h1) (fun p hp => ?_)
  rw [← hxs] at hp
  obtain ⟨x, hx, rfl⟩ := List.mem_map.1 hp
  exact h2 x hx
theorem txs_length (xs : List Tx) : (txs xs).length = xs.length := by rw [txs, List.length_map]
set_option maxRecDepth 100000 in
set_option maxHeartbeats 2000000 in
theorem impl_NameOk_long (s : ByteArray) (w : World) (h : 60 < s.size) :
    Calls Tryz.prog 87 #[.string s] w fun e w' => e = .returned (.bool (okB (bs s))) ∧ Below w.heap.size w w' := by
  have h1 : (60 : Int) < (s.size : Int) := by omega
  rw [okB_long (by rw [bs_length]; exact h)]
  go_enter Tryz.func87, Tryz.ntmps87
  go_wp2
  refine bodyPost_ret (v := .bool false) ?_ rfl ⟨rfl, (Below.refl _ w).alloc (Nat.le_refl _) _⟩
  simp [results, Tryz.f87, go_sem]
set_option maxRecDepth 100000 in
set_option maxHeartbeats 2000000 in
theorem impl_NameOk_short (s : ByteArray) (w : World) (hs : s.size ≤ 60) :
    Calls Tryz.prog 87 #[.string s] w fun e w' => e = .returned (.bool (okB (bs s))) ∧ Below w.heap.size w w' := by
  have h1 : ¬ (60 : Int) < (s.size : Int) := by omega
  obtain ⟨xs, hxs⟩ := tx_labels s hs
  have hN : xs.length ≤ 61 := by
    rw [← txs_length, hxs]
    have := labels_count (bs s)
    rw [bs_length] at this
    omega
  have HX : Hid (txs xs = labels (bs s)) := hxs
  have HG : Hid (xs.length ≤ 6 → (∀ x ∈ xs, labelOk (bs x.1) = true) → okB (bs s) = true) := fun a b => tx_good (by rw [bs_length]; exact hs) hxs a b
  have HB : Hid (∀ pre, pre <+: xs → (6 < pre.length ∨ ∃ x ∈ pre, labelOk (bs x.1) = false) → okB (bs s) = false) := fun pre a b => tx_bad hxs a b
  have HS : Hid (s.size ≤ 60) := hs
  generalize okB (bs s) = res at HG HB ⊢
  clear hxs hs
  refine (callsIn_wide (n := 3)).1 ?_
  refine callsIn_of_wp_marks Tryz.func87 rfl trivial ?_ rfl
  simp only [Tryz.ntmps87, List.size_toArray, List.length_cons, List.length_nil, Nat.reduceAdd, Nat.reduceSub, Array.replicate_succ, Array.replicate_zero, List.push_toArray, List.append_toArray, List.nil_append, List.cons_append]
  gi_wp2_with (refine ⟨trivial, ?_⟩; gi_at_call 101; refine (labelsOf_in _ s _).mono ?_; rintro e w' ⟨rfl, rfl⟩)
  have b0 := Boxed.new w 4 (.bool false)
  have b1 := Boxed.new (w.alloc (.cells #[.bool false] 4)) 3 (.int .i64 0)
  have b2 := Boxed.new ((w.alloc (.cells #[.bool false] 4)).alloc (.cells #[.int .i64 0] 3)) 9 (.string s)
  simp only [World.size_alloc] at b1 b2
  have hB0 : Below w.heap.size w (((w.alloc (.cells #[.bool false] 4)).alloc (.cells #[.int .i64 0] 3)).alloc (.cells #[.string s] 9)) := (((Below.refl _ w).alloc (Nat.le_refl _) _).alloc (by simp) _).alloc (by simp; omega) _
  refine wpIn_rangeFunc_ownF rfl (by omega) (gf := 112) (lb := #[.pointer (some ⟨w.heap.size + 1 + 1, 0, none⟩)]) rfl trivial (enters_of Tryz.func112 (by kernel_rfl) rfl)
    (labels_stops _ (by omega) (w.heap.size + 1 + 1) w.heap.size s HS.out xs HX.out _ (by simp) b2.cell) belowK_t (belowK_b (by simp; omega)) (Below.refl _ _) (fun _ => rfl)
    (fun pre W => ((pre.length ≤ 6 ∧ Hid (∀ x ∈ pre, labelOk (bs x.1) = true)) ∧ W.cell? ⟨w.heap.size, 0, none⟩ = some (.bool false) ∧ W.frozen? ⟨w.heap.size, 0, none⟩ = false ∧ W.cell? ⟨w.heap.size + 1, 0, none⟩ = some (.int .i64 (pre.length : Int)) ∧ W.frozen? ⟨w.heap.size + 1, 0, none⟩ = false) ∧ Below w.heap.size w W)
    (fun c pre W => (c = .ret ∧ Hid (6 < pre.length ∨ ∃ x ∈ pre, labelOk (bs x.1) = false) ∧ W.cell? ⟨w.heap.size, 0, none⟩ = some (.bool false)) ∧ Below w.heap.size w W)
    (OwnFrom.and (Own.from (fun s A B row hs hg hr => ⟨hs.1, cell_kept hs.2.1 hg hr, (frozen_kept hs.2.1 hg hr).trans hs.2.2.1, cell_kept hs.2.2.2.1 hg hr, (frozen_kept hs.2.2.2.1 hg hr).trans hs.2.2.2.2⟩) _) (ownFrom_below (Nat.le_refl _) (by simp; omega)))
    (fun c => OwnFrom.and (Own.from (fun s A B row hs hg hr => ⟨hs.1, hs.2.1, cell_kept hs.2.2 hg hr⟩) _) (ownFrom_below (Nat.le_refl _) (by simp; omega)))
    ⟨⟨⟨by simp, hidIt (by simp)⟩, ((b0.alloc _).alloc _).cell, ((b0.alloc _).alloc _).frozen, (b1.alloc _).cell, (b1.alloc _).frozen⟩, hB0⟩
    (fun x => { tmps := #[.string s, undef, .pointer (some ⟨w.heap.size, 0, none⟩), .pointer (some ⟨w.heap.size + 1, 0, none⟩), .string x.1, .string s, .int .i64 (s.size : Int), .bool false, .string s, .func (.func 112) #[] #[.pointer (some ⟨w.heap.size + 1 + 1, 0, none⟩)], .string x.1, undef, undef, undef, undef, undef, undef, undef, undef, undef], defers := [] }) ?assign ?body ?done ?stop
  case assign =>
    intro l x W K hK
    gi_wp2
    exact hK
  case body =>
    rintro l pre x W ⟨⟨⟨hp6, hall⟩, hcr, hfr, hcc, hfc⟩, hB⟩ hlt
    have hL := impl_labelOk x.1
    have hsz := x.2
    have hx6 : x.1.size ≤ 1000000 := by omega
    have keep : Below w.heap.size w (W.setCell ⟨w.heap.size + 1, 0, none⟩ (.int .i64 ((pre.length : Int) + 1))) := hB.setCell (p := ⟨w.heap.size + 1, 0, none⟩) (by simp) _
    have keepW : Below w.heap.size W (W.setCell ⟨w.heap.size + 1, 0, none⟩ (.int .i64 ((pre.length : Int) + 1))) := (Below.refl w.heap.size W).setCell (p := ⟨w.heap.size + 1, 0, none⟩) (by simp) _
    have c1 : (W.setCell ⟨w.heap.size + 1, 0, none⟩ (.int .i64 ((pre.length : Int) + 1))).cell? ⟨w.heap.size + 1, 0, none⟩ = some (.int .i64 ((pre.length : Int) + 1)) := World.cell?_setCell_same' _ _ _ (by rw [hcc]; rfl)
    have c0 : (W.setCell ⟨w.heap.size + 1, 0, none⟩ (.int .i64 ((pre.length : Int) + 1))).cell? ⟨w.heap.size, 0, none⟩ = some (.bool false) := by rw [cell_set_far (by omega)]; exact hcr
    have f0 : (W.setCell ⟨w.heap.size + 1, 0, none⟩ (.int .i64 ((pre.length : Int) + 1))).frozen? ⟨w.heap.size, 0, none⟩ = false := by rw [World.frozen?_setCell]; exact hfr
    have f1 : (W.setCell ⟨w.heap.size + 1, 0, none⟩ (.int .i64 ((pre.length : Int) + 1))).frozen? ⟨w.heap.size + 1, 0, none⟩ = false := by rw [World.frozen?_setCell]; exact hfc
    by_cases h6 : 6 < pre.length + 1
    · have h6' : (6 : Int) < (pre.length : Int) + 1 := by omega
      gi_wp2
      refine ⟨trivial, ?_⟩
      gi_wp2
      exact ⟨(KeepsOthers.setCell _ _ _).trans (KeepsOthers.setCell _ _ _), ⟨rfl, hidIt (.inl (by simp; omega)), World.cell?_setCell_same' _ _ _ (by rw [c0]; rfl)⟩, keep.setCell (p := ⟨w.heap.size, 0, none⟩) (by simp) _⟩
    · have h6' : decide ((6 : Int) < (pre.length : Int) + 1) = false := by simp; omega
      cases hok : labelOk (bs x.1) with
      | true =>
        rw [hok] at hL
        gi_wp2_with (refine ⟨trivial, ?_⟩; gi_at_call 102; refine (CallsIn.inRound l (callsIn_wide.2 (hL _ hx6))).mono ?_; rintro e w' ⟨rfl, rfl⟩)
        exact ⟨KeepsOthers.setCell _ _ _, keepW, ⟨⟨by simp; omega, hidIt (fun y hy => (List.mem_append.1 hy).elim (hall.out y) (fun e => by simp at e; subst e; exact hok))⟩, c0, f0, by rw [c1]; simp, f1⟩, keep⟩
      | false =>
        rw [hok] at hL
        gi_wp2_with (refine ⟨trivial, ?_⟩; gi_at_call 102; refine (CallsIn.inRound l (callsIn_wide.2 (hL _ hx6))).mono ?_; rintro e w' ⟨rfl, rfl⟩)
        exact ⟨(KeepsOthers.setCell _ _ _).trans (KeepsOthers.setCell _ _ _), ⟨rfl, hidIt (.inr ⟨x, by simp, hok⟩), World.cell?_setCell_same' _ _ _ (by rw [c0]; rfl)⟩, keep.setCell (p := ⟨w.heap.size, 0, none⟩) (by simp) _⟩
  case done =>
    rintro D ys W hD rfl ⟨⟨⟨hp6, hall⟩, hcr, hfr, hcc, hfc⟩, hB⟩ hK
    obtain rfl := HG.out hp6 hall.out
    gi_wp2
    have hK' := (KeepsOthers.setCell W ⟨w.heap.size, 0, none⟩ (.bool true)).same D _ hK rfl
    refine ⟨by simp, .inl ⟨_, _, rfl, run_takeDeferred hK', ?_⟩⟩
    have hc5 := cell_kept (World.cell?_setCell_same' W ⟨w.heap.size, 0, none⟩ (.bool true) (by rw [hcr]; rfl)) (grownBy_putObj' _ D (.deferred none)) (fun r e => by cases e; exact ⟨_, hK', rfl⟩)
    refine ⟨.bool true, ?_, rfl, (hB.setCell (p := ⟨w.heap.size, 0, none⟩) (by simp) _).trans (belowK_b (w := w) (Nat.le_refl _) _ D _ _ (by simp at hD; omega) hK' rfl rfl)⟩
    simp [results, Tryz.f87, go_sem, hc5]
  case stop =>
    rintro D c pre W hD hpre ⟨⟨rfl, hin, hcr⟩, hB⟩ hK
    obtain rfl := HB.out pre hpre hin.out
    gi_wp2
    refine ⟨by simp, .inl ⟨_, _, rfl, run_takeDeferred hK, ?_⟩⟩
    have hc5 := cell_kept hcr (grownBy_putObj' _ D (.deferred none)) (fun r e => by cases e; exact ⟨_, hK, rfl⟩)
    refine ⟨.bool false, ?_, rfl, hB.trans (belowK_b (w := w) (Nat.le_refl _) W D _ _ (by simp at hD; omega) hK rfl rfl)⟩
    simp [results, Tryz.f87, go_sem, hc5]
theorem impl_NameOk (s : ByteArray) (w : World) :
    Calls Tryz.prog 87 #[.string s] w fun e w' => e = .returned (.bool (okB (bs s))) ∧ Below w.heap.size w w' := by
  by_cases h : 60 < s.size
  · exact impl_NameOk_long s w h
  · exact impl_NameOk_short s w (by omega)
end Go.Proofs.YtceddedlfdgbhaaGreatDoor.Nm
