/-
  Labels of the program.
-/
import Derived.Test.YtpiioogfjgjcmaaNameN
namespace Go.Proofs.Ytpiioogfjgjcmaa.Nm
open Go.ChangeShapes Go.WideShapes Go.ChangeAt Go.RowKit Go.Shelf
attribute [local go_sem] Oper.semAt_some
theorem txs_LB {l : Bytes} {xs : List Tx} (h : txs xs = labels l) : xs.map (fun x => x.1) = LB l := by
  rw [LB, ← h, txs, List.map_map]
  exact List.map_congr_left (fun x _ => (B_bs x.1).symm)
theorem box2 {w w1 : World} {o : Obj} {t : TypeId} {v : Value} (k : Below ((w.alloc o).alloc (.cells #[v] t)).heap.size ((w.alloc o).alloc (.cells #[v] t)) w1) :
    w1.cell? ⟨w.heap.size + 1, 0, none⟩ = some v ∧ w1.frozen? ⟨w.heap.size + 1, 0, none⟩ = false ∧ Below w.heap.size w w1 ∧ w.heap.size + 1 < w1.heap.size ∧ Boxed w1 (w.heap.size + 1) t v := by
  have b := Boxed.new (w.alloc o) t v
  rw [World.size_alloc] at b
  have hl : w.heap.size + 1 < ((w.alloc o).alloc (.cells #[v] t)).heap.size := by simp
  refine ⟨(k.cell (p := ⟨w.heap.size + 1, 0, none⟩) hl).trans b.cell, (k.frozen (p := ⟨w.heap.size + 1, 0, none⟩) hl).trans b.frozen, ?_, Nat.lt_of_lt_of_le hl k.size, (k.block _ hl).trans b⟩
  exact (((Below.refl _ w).alloc (Nat.le_refl _) _).alloc (by simp) _).trans (k.mono (by simp; omega))
set_option maxRecDepth 100000 in
set_option maxHeartbeats 4000000 in
theorem impl_Labels (s : ByteArray) (w : World) :
    Calls Try.prog 15 #[.string s] w fun e w' => ∃ v, e = .returned v ∧ Own w' w.heap.size v (labsB (bs s)) ∧ Below w.heap.size w w' := by
  have hK := impl_NameOk s
  have own0 : Hid (Own ((w.alloc (.cells #[] 9)).alloc (.cells #[.slice (some ⟨w.heap.size, 0, none⟩) 0 0] 28)) w.heap.size (.slice (some ⟨w.heap.size, 0, none⟩) 0 0) []) := hidIt ((Own.new w).alloc _)
  cases hk : okB (bs s) with
  | false =>
    have e : labsB (bs s) = [] := by unfold labsB; rw [if_neg (by rw [hk]; simp)]
    rw [e]
    rw [hk] at hK
    go_enter Try.func15, Try.ntmps15
    go_wp2_with (go_at_call 24; refine (hK _).mono ?_; rintro e w1 ⟨rfl, k1⟩; obtain ⟨c1, f1, k1', l1, _⟩ := box2 k1)
    go_ret
    exact ⟨_, rfl, own0.out.kept k1, k1'⟩
  | true =>
    have e : labsB (bs s) = LB (bs s) := by unfold labsB; rw [if_pos hk]
    rw [e]
    rw [hk] at hK
    have hs := ok_short hk
    rw [bs_length] at hs
    obtain ⟨xs, hxs⟩ := tx_labels s hs
    have hN : xs.length ≤ 61 := by
      rw [← txs_length, hxs]
      have := labels_count (bs s)
      rw [bs_length] at this
      omega
    have HX : Hid (txs xs = labels (bs s)) := hxs
    have HL : Hid (xs.map (fun x => x.1) = LB (bs s)) := txs_LB hxs
    have HS : Hid (s.size ≤ 60) := hs
    rw [← HL.out]
    clear hxs hs e hk
    obtain ⟨i0, hi, hz0, hz1, hz2⟩ := info_parts info9
    refine (callsIn_wide (n := 3)).1 ?_
    refine callsIn_of_wp_marks Try.func15 rfl trivial ?_ rfl
    simp only [Try.ntmps15, List.size_toArray, List.length_cons, List.length_nil, Nat.reduceAdd, Nat.reduceSub, Array.replicate_succ, Array.replicate_zero, List.push_toArray, List.append_toArray, List.nil_append, List.cons_append]
    gi_wp2_with (first
      | (refine ⟨trivial, ?_⟩; gi_at_call 24; refine (callsIn_wide.2 (hK _)).mono ?_; rintro e w1 ⟨rfl, k1⟩; obtain ⟨c1, f1, k1', l1, b1⟩ := box2 k1)
      | (refine ⟨trivial, ?_⟩; gi_at_call 37; refine (labelsOf_in _ s _).mono ?_; rintro e w' ⟨rfl, rfl⟩))
    have o1 := (own0.out.kept k1).alloc (.cells #[.string s] 9)
    have b2 := b1.alloc (.cells #[.string s] 9)
    have b3 := Boxed.new w1 9 (.string s)
    have hB0 : Below w.heap.size w (w1.alloc (.cells #[.string s] 9)) := k1'.alloc k1'.size _
    refine wpIn_rangeFunc_ownG rfl (by omega) (gf := 50) (lb := #[.pointer (some ⟨w1.heap.size, 0, none⟩)]) rfl trivial (enters_of Try.func50 (by kernel_rfl) rfl)
      (labels_stops _ (by omega) w1.heap.size w.heap.size s HS.out xs HX.out _ (by simp) b3.cell) belowK_t (belowK_b (by have := k1'.size; simp; omega)) (Below.refl _ _) (fun _ => rfl)
      (fun pre W => (∃ v, Boxed W (w.heap.size + 1) 28 v ∧ W.ownsRow w.heap.size 9 1 v (pre.map (fun x : Tx => x.1)).length (scells (pre.map (fun x : Tx => x.1))) ∧ True) ∧ Below w.heap.size w W)
      (fun _ _ _ => False)
      (OwnFrom.and (Own.from (holdsRow_own w.heap.size (w.heap.size + 1) 28 9 1 (fun pre : List Tx => (pre.map (fun x : Tx => x.1)).length) (fun pre => scells (pre.map (fun x : Tx => x.1))) (fun _ _ => True)) _) (ownFrom_below (Nat.le_refl _) (by have := k1'.size; simp; omega)))
      (fun _ _ _ _ _ hs _ _ => hs)
      ⟨⟨_, b2, o1, trivial⟩, hB0⟩
      (fun x => { tmps := #[.string s, undef, .slice none 0 0, .pointer (some ⟨w.heap.size + 1, 0, none⟩), .string x.1, .slice (some ⟨w.heap.size, 0, none⟩) 0 0, .string s, .bool true, .bool false, undef, .string s, .func (.func 50) #[] #[.pointer (some ⟨w1.heap.size, 0, none⟩)], .string x.1, undef, undef, undef, undef, undef], defers := [] }) ?assign ?body ?done ?stop
    case assign =>
      intro l x W K hK
      gi_wp2
      exact hK
    case body =>
      rintro l pre x W ⟨⟨v, hv, hrow, _⟩, hB⟩ hlt
      have hc := hv.cell
      have hpl : (pre.map (fun x : Tx => x.1)).length = pre.length := List.length_map ..
      gi_wp2_with (gi_at_builtin; refine wpListIn_append_own _ rfl _ _ 28 rfl w.heap.size 9 i0 (.string ByteArray.empty) 1 16 Try.underlying28 hi hz0 hz1 hz2 rfl (by decide) _ _ _ rfl (hrow.alloc _) ⟨W.heap.size, 0, none⟩ 1 1 [.string x.1] rfl rfl (cell_one_new _ _ _) (by simp [Value.oneCell']) (by unfold maxLen; omega) (by omega) (by have := hB.size; simp; omega) ?_; intro v' w2 hown' hgrow _; obtain ⟨g', cap', rfl⟩ := ownsRow_succ hown'; obtain ⟨hv1, hv2, hr2, hk2, hb2⟩ := hv.appended (by decide) hrow hB.size (by omega) hown' hgrow; have hc1 := hv1.cell; have hf1 := hv1.frozen)
      rw [hpl] at hv2 hk2 hb2 hr2
      refine ⟨hk2.from _, hb2, ⟨_, hv2, ?_, trivial⟩, hB.trans hb2⟩
      rw [List.map_append, List.length_append, scells, List.map_append, hpl]
      exact hr2
    case done =>
      rintro D ys W hD rfl ⟨⟨v, hv, hrow, _⟩, hB⟩ hK
      have hc := hv.cell
      gi_wp2
      refine ⟨by simp, .inl ⟨_, _, rfl, run_takeDeferred hK, ?_⟩⟩
      exact ⟨_, results_tmp rfl _ _ _, v, rfl, ownsRow_putObj hrow _ hK rfl, hB.trans (belowK_b (w := w) (Nat.le_refl _) W D _ _ (by have := k1'.size; simp at hD; omega) hK rfl rfl)⟩
    case stop =>
      rintro D c pre W _ _ h _
      exact h.elim
end Go.Proofs.Ytpiioogfjgjcmaa.Nm
