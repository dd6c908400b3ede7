/-
  The labels from the end on by the program's iterator; Before of the program.
-/
import Derived.Test.YtkclfnmhiojklaaNameL
namespace Go.Proofs.Ytkclfnmhiojklaa.Nm
open Go.ChangeShapes Go.WideShapes Go.ChangeAt Go.RowKit Go.Shelf
attribute [local go_sem] Oper.semAt_some
theorem last_labels {p q : Bytes} (hq : ∀ c ∈ q, c ≠ 46) (hne : ∀ x ∈ labels (p ++ 46 :: q), x ≠ []) : labels (p ++ 46 :: q) = labels p ++ [q] ∧ ∀ x ∈ labels p, x ≠ [] := by
  have e : labels (p ++ 46 :: q) = split p ++ [q] := by rw [labels_cons (by simp), split_join, split_whole hq]
  rw [e] at hne
  have hp : p ≠ [] := fun k => by
    subst k
    exact hne [] (by rw [split_nil]; simp) rfl
  rw [e, labels_cons hp]
  exact ⟨rfl, fun x hx => hne x (by simp [hx])⟩
theorem one_label {r : Bytes} (hd : ∀ c ∈ r, c ≠ 46) (h : r ≠ []) : labels r = [r] := by rw [labels_cons h, split_whole hd]
theorem ok_filled {l : Bytes} (h : okB l = true) : ∀ x ∈ labels l, x ≠ [] := by
  intro x hx e
  subst e
  have : okB l = false := ok_bad hx rfl
  rw [h] at this
  cases this
theorem ok_short {l : Bytes} (h : okB l = true) : l.length ≤ 60 := by
  rcases Nat.lt_or_ge 60 l.length with k | k
  · rw [okB_long k] at h; cases h
  · exact k
def lft1 (v : Value) : Nat := match v with
  | .string s => s.size
  | _ => 0
theorem befL_common (c x y : List Bytes) : befL (c ++ x) (c ++ y) = befL x y := by
  induction c with
  | nil => rfl
  | cons p c ih =>
    show (if p = p then befL (c ++ x) (c ++ y) else decide (p < p)) = befL x y
    rw [if_pos rfl]
    exact ih
theorem less_eq : ∀ x y : Bytes, Op.bytesLess x y = decide (x < y)
  | [], [] => by simp [Op.bytesLess]
  | _ :: _, [] => by simp [Op.bytesLess]
  | [], _ :: _ => by simp [Op.bytesLess]
  | a :: x, b :: y => by
    rw [Op.bytesLess, less_eq x y]
    simp only [List.cons_lt_cons_iff]
    by_cases h1 : a < b <;> by_cases h2 : a = b <;> by_cases h3 : x < y <;> simp [h1, h2, h3]
theorem less_of (a b : ByteArray) : Op.bytesLess a.toList b.toList = decide (bs a < bs b) := by rw [less_eq, Go.Lib.toList_data, Go.Lib.toList_data]
set_option maxRecDepth 100000 in
set_option maxHeartbeats 2000000 in
theorem end1_in (n l Bn n₀ : Nat) (hn : 1 ≤ n) (s : ByteArray) (hs : s.size ≤ 60) (hne : ∀ x ∈ labels (bs s), x ≠ []) (xs : List Tx) (hxs : txs xs = (labels (bs s)).reverse) (J Jx : List Tx → World → Prop) (hJ : ∀ pre W, J pre W → J pre W.drew)
    (hY : ∀ pre x W, J pre W → pre.length < xs.length → YieldAt Fence.wide (n - 1) Try.prog l #[.string x.1] W fun e W' =>
      (e = .returned (.bool true) ∧ J (pre ++ [x]) W' ∧ Below n₀ W W') ∨ (e = .returned (.bool false) ∧ Jx (pre ++ [x]) W'))
    (W : World) (hBn : W.cell? ⟨Bn, 0, none⟩ = some (.string s)) (h0 : J [] W) :
    CallsIn Fence.wide n Try.prog 35 #[.func (.yield l) #[] #[], .pointer (some ⟨Bn, 0, none⟩)] W fun e W' => (∃ v, e = .returned v) ∧
      ((∃ ys, ys = xs ∧ J ys W') ∨ (∃ pre, pre <+: xs ∧ Jx pre W')) := by
  refine callsIn_of_wp Try.func35 rfl trivial ?_ rfl
  simp only [Try.ntmps35, List.size_toArray, List.length_cons, List.length_nil, Nat.reduceAdd, Nat.reduceSub, Array.replicate_succ, Array.replicate_zero, List.push_toArray, List.append_toArray, List.nil_append, List.cons_append]
  gi_wp2
  gi_loopw [3] (fun y wr => ∃ (pre todo : List Tx) (r : ByteArray), y = .string r ∧ xs = pre ++ todo ∧ r.size ≤ 60 ∧ Hid (txs todo = (labels (bs r)).reverse ∧ ∀ x ∈ labels (bs r), x ≠ []) ∧ J pre wr)
    (fun y _ => lft1 y)
  case atStart => exact ⟨[], xs, s, rfl, rfl, hs, hidIt ⟨hxs, hne⟩, h0⟩
  case round =>
    obtain ⟨pre, todo, r, rfl, hx, hr, HT, hJs⟩ := hrel
    by_cases e : r = ByteArray.empty
    · subst e
      have ht : todo = [] := List.map_eq_nil_iff.1 HT.out.1
      subst ht
      gi_wp2
      go_end0
      exact ⟨⟨_, rfl⟩, .inl ⟨pre, by simp [hx], hJs⟩⟩
    · have hf := filled e
      have ht := HT.out.1
      have hne' := HT.out.2
      clear HT
      rcases last_cases (bs r) with hd | ⟨p, q, e', hq⟩
      · rw [one_label hd (fun k => e (empty_of k))] at ht
        obtain ⟨x, rfl, ht'⟩ := tx_one ht
        obtain rfl : x.1 = r := bs_inj ht'
        have hC := impl_lastLabel_none x.1
        have h4 : x.1.size < 4611686018427387904 := by omega
        obtain ⟨fn, tmps, assign, body, hy, hR⟩ := hY pre x wr.drew (hJ _ _ hJs) (by rw [hx]; simp)
        have HE : Hid (xs = pre ++ [x]) := hx
        clear ht ht' hne' hx hxs hne
        gi_wp2_with (refine ⟨trivial, ?_⟩; gi_at_call 30; refine (callsIn_wide.2 (hC _ hd h4)).mono ?_; rintro e w' ⟨rfl, rfl⟩)
        refine hR.mono ?_
        rintro e2 W3 (⟨rfl, hJ3, hk3⟩ | ⟨rfl, hJx3⟩)
        · gi_wp2
          go_roundw
          case rel => exact ⟨pre ++ [x], [], ByteArray.empty, rfl, by rw [HE.out]; simp, by decide, hidIt ⟨rfl, by simp [labels]⟩, hJ3⟩
          case measure =>
            show (0 : Nat) < x.1.size
            rcases Nat.eq_zero_or_pos x.1.size with k | k
            · exact absurd (bs_inj (List.eq_nil_of_length_eq_zero ((bs_length _).trans k))) e
            · exact k
        · gi_wp2
          refine bodyPost_ret (results_none rfl _ _ _) rfl ?_
          exact ⟨⟨_, rfl⟩, .inr ⟨pre ++ [x], ⟨[], by rw [HE.out]; simp⟩, hJx3⟩⟩
      · rw [e'] at hne' ht
        obtain ⟨el, hp'⟩ := last_labels hq hne'
        rw [el, List.reverse_append, List.reverse_singleton, List.singleton_append] at ht
        obtain ⟨x, todo, rfl, ht1, ht2'⟩ := tx_cons ht
        have ht2 : Hid (txs todo = (labels p).reverse) := ht2'
        have hp2 : Hid (∀ x ∈ labels p, x ≠ []) := hp'
        have hxp : x.1 = B q := bs_inj (by rw [ht1, bs_B])
        obtain rfl : r = B (p ++ 46 :: q) := bs_inj (by rw [e', bs_B])
        have hl : (p ++ 46 :: q).length ≤ 60 := by rw [B_size] at hr; exact hr
        have hC := fun w => impl_lastLabel_some p q w hq (by omega)
        have hf2 : (p ++ 46 :: q).isEmpty = false := by simp
        obtain ⟨fn, tmps, assign, body, hy, hR⟩ := hY pre x wr.drew (hJ _ _ hJs) (by rw [hx]; simp)
        rw [hxp] at hy
        have HL := hidIt hl
        have HE : Hid (xs = pre ++ x :: todo) := hx
        clear ht e' hl hr hx hxs ht1 ht2' hp' hne hne' el
        gi_wp2_with (refine ⟨trivial, ?_⟩; gi_at_call 30; refine (callsIn_wide.2 (hC _)).mono ?_; rintro e w' ⟨rfl, rfl⟩)
        refine hR.mono ?_
        rintro e2 W3 (⟨rfl, hJ3, hk3⟩ | ⟨rfl, hJx3⟩)
        · gi_wp2
          go_roundw
          case rel =>
            refine ⟨pre ++ [x], todo, B p, rfl, by rw [HE.out]; simp, ?_, hidIt ⟨?_, ?_⟩, hJ3⟩
            · have := HL.out; rw [B_size]; simp at this; omega
            · rw [bs_B]; exact ht2.out
            · rw [bs_B]; exact hp2.out
          case measure => show (B p).size < (B (p ++ 46 :: q)).size; rw [B_size, B_size, List.length_append, List.length_cons]; omega
        · gi_wp2
          refine bodyPost_ret (results_none rfl _ _ _) rfl ?_
          exact ⟨⟨_, rfl⟩, .inr ⟨pre ++ [x], ⟨todo, by rw [HE.out]; simp⟩, hJx3⟩⟩
set_option maxHeartbeats 1000000 in
theorem fromTheEnd_in (n : Nat) (s : ByteArray) (w : World) :
    CallsIn Fence.wide n Try.prog 29 #[.string s] w fun e w' => e = .returned (.func (.func 35) #[] #[.pointer (some ⟨w.heap.size, 0, none⟩)]) ∧ w' = w.alloc (.cells #[.string s] 9) := by
  refine callsIn_of_wp Try.func29 rfl trivial ?_ rfl
  simp only [Try.ntmps29, List.size_toArray, List.length_cons, List.length_nil, Nat.reduceAdd, Nat.reduceSub, Array.replicate_succ, Array.replicate_zero, List.push_toArray, List.append_toArray, List.nil_append, List.cons_append]
  gi_wp2
  go_ret
  exact ⟨rfl, rfl⟩
theorem end_stops (n : Nat) (hn : 1 ≤ n) (Bn n₀ : Nat) (s : ByteArray) (hs : s.size ≤ 60) (hne : ∀ x ∈ labels (bs s), x ≠ []) (xs : List Tx) (hxs : txs xs = (labels (bs s)).reverse) (w : World) (hBn : Bn < w.heap.size)
    (hc : w.cell? ⟨Bn, 0, none⟩ = some (.string s)) :
    SeqStopsK Fence.wide n Try.prog 35 #[.pointer (some ⟨Bn, 0, none⟩)] (fun x : Tx => #[Value.string x.1]) (Below n₀) (fun ys => ys = xs) (fun pre => pre <+: xs) xs.length w := fun l J Jx W hW hJ _ hY h0 =>
  end1_in n l Bn n₀ hn s hs hne xs hxs J Jx (abides_drew hJ) hY W ((hW.cell (p := ⟨Bn, 0, none⟩) hBn).trans hc) h0
theorem tx_rev (s : ByteArray) (h : s.size ≤ 60) : ∃ xs : List Tx, txs xs = (labels (bs s)).reverse :=
  tx_of (fun p hp => by have := labels_short (List.mem_reverse.1 hp); rw [bs_length] at this; omega)
theorem box_kept {w w1 : World} {t : TypeId} {v : Value} (k : Below (w.alloc (.cells #[v] t)).heap.size (w.alloc (.cells #[v] t)) w1) :
    w1.cell? ⟨w.heap.size, 0, none⟩ = some v ∧ w1.frozen? ⟨w.heap.size, 0, none⟩ = false ∧ Below w.heap.size w w1 ∧ w.heap.size < w1.heap.size := by
  have b := Boxed.new w t v
  have hl : w.heap.size < (w.alloc (.cells #[v] t)).heap.size := by simp
  refine ⟨(k.cell (p := ⟨w.heap.size, 0, none⟩) hl).trans b.cell, (k.frozen (p := ⟨w.heap.size, 0, none⟩) hl).trans b.frozen, ?_, Nat.lt_of_lt_of_le hl k.size⟩
  exact ((Below.refl _ w).alloc (Nat.le_refl _) _).trans (k.mono (by simp))
theorem cell_below {w w1 : World} {b : Nat} {v : Value} (k : Below w.heap.size w w1) (h : w.cell? ⟨b, 0, none⟩ = some v) (f : w.frozen? ⟨b, 0, none⟩ = false) (hb : b < w.heap.size) :
    w1.cell? ⟨b, 0, none⟩ = some v ∧ w1.frozen? ⟨b, 0, none⟩ = false := ⟨(k.cell (p := ⟨b, 0, none⟩) hb).trans h, (k.frozen (p := ⟨b, 0, none⟩) hb).trans f⟩
theorem before_left {a b : Bytes} (h : okB a = false) : beforeB a b = false := by unfold beforeB; rw [h, Bool.false_and, Bool.false_and]
theorem before_right {a b : Bytes} (h : okB b = false) : beforeB a b = false := by unfold beforeB; rw [h, Bool.and_false, Bool.false_and]
set_option maxRecDepth 100000 in
set_option maxHeartbeats 2000000 in
theorem impl_Before_not (a b : ByteArray) (w : World) (h : okB (bs a) = false ∨ okB (bs b) = false) :
    Calls Try.prog 23 #[.string a, .string b] w fun e w' => e = .returned (.bool (beforeB (bs a) (bs b))) ∧ Below w.heap.size w w' := by
  have hr : beforeB (bs a) (bs b) = false := h.elim before_left before_right
  rw [hr]
  have hA := impl_NameOk a
  have hB := impl_NameOk b
  cases ha : okB (bs a) with
  | false =>
    rw [ha] at hA
    go_enter Try.func23, Try.ntmps23
    go_wp2_with (go_at_call 21; refine (hA _).mono ?_; rintro e w1 ⟨rfl, k1⟩; obtain ⟨c1, f1, k1', _⟩ := box_kept k1)
    have c5 := World.cell?_setCell_same' w1 ⟨w.heap.size, 0, none⟩ (.bool false) (by rw [c1]; rfl)
    refine bodyPost_ret (v := .bool false) ?_ rfl ⟨rfl, k1'.setCell (p := ⟨w.heap.size, 0, none⟩) (by simp) _⟩
    simp [results, Try.f23, go_sem, c5]
  | true =>
    have hb : okB (bs b) = false := h.elim (fun k => by rw [ha] at k; cases k) id
    rw [ha] at hA
    rw [hb] at hB
    go_enter Try.func23, Try.ntmps23
    go_wp2_with (first
      | (go_at_call 21; refine (hA _).mono ?_; clear hA; rintro e w1 ⟨rfl, k1⟩; obtain ⟨c1, f1, k1', l1⟩ := box_kept k1)
      | (go_at_call 21; refine (hB _).mono ?_; rintro e w2 ⟨rfl, k2⟩; obtain ⟨c2, f2⟩ := cell_below k2 c1 f1 l1))
    have c5 := World.cell?_setCell_same' w2 ⟨w.heap.size, 0, none⟩ (.bool false) (by rw [c2]; rfl)
    refine bodyPost_ret (v := .bool false) ?_ rfl ⟨rfl, (k1'.trans (k2.mono (Nat.le_of_lt l1))).setCell (p := ⟨w.heap.size, 0, none⟩) (by simp) _⟩
    simp [results, Try.f23, go_sem, c5]
theorem neq_of {a b : ByteArray} (h : a ≠ b) : (a.toList == b.toList) = false := by
  rw [Go.Lib.toList_data, Go.Lib.toList_data]
  exact beq_eq_false_iff_ne.2 (fun e => h (bs_inj e))
/-- What the labels that have come say of the order. -/
theorem bef_none {p : List Bytes} (x : Bytes) (r : List Bytes) : befL (p ++ [x] ++ r) p = false := by
  have := befL_common p ([x] ++ r) []
  rw [List.append_nil] at this
  rw [List.append_assoc, this]
  rfl
theorem bef_part {p : List Bytes} {x o : Bytes} (h : x ≠ o) (r y : List Bytes) : befL (p ++ [x] ++ r) (p ++ o :: y) = decide (x < o) := by
  rw [List.append_assoc, befL_common]
  show (if x = o then befL r y else decide (x < o)) = _
  rw [if_neg h]
theorem bef_end (p y : List Bytes) : befL p (p ++ y) = !y.isEmpty := by
  have := befL_common p [] y
  rw [List.append_nil] at this
  rw [this]
  cases y <;> rfl
theorem last_of (r : ByteArray) (h : r ≠ ByteArray.empty) (hs : r.size ≤ 60) (hne : ∀ x ∈ labels (bs r), x ≠ []) : ∃ r' o : ByteArray, r'.size ≤ 60 ∧ o.size ≤ 60 ∧ (∀ x ∈ labels (bs r'), x ≠ []) ∧ (labels (bs r)).reverse = bs o :: (labels (bs r')).reverse ∧
    ∀ w, Calls Try.prog 30 #[.string r] w fun e w' => e = .returned (.tuple #[.string r', .string o]) ∧ w' = w.drew := by
  rcases last_cases (bs r) with hd | ⟨p, q, e', hq⟩
  · refine ⟨ByteArray.empty, r, by decide, hs, by simp [labels], ?_, fun w => impl_lastLabel_none r w hd (by omega)⟩
    rw [one_label hd (fun k => h (empty_of k))]
    rfl
  · rw [e'] at hne
    obtain ⟨el, hp'⟩ := last_labels hq hne
    obtain rfl : r = B (p ++ 46 :: q) := bs_inj (by rw [e', bs_B])
    rw [B_size, List.length_append, List.length_cons] at hs
    refine ⟨B p, B q, by rw [B_size]; omega, by rw [B_size]; omega, by rw [bs_B]; exact hp', ?_, fun w => impl_lastLabel_some p q w hq (by rw [List.length_append, List.length_cons]; omega)⟩
    rw [bs_B, bs_B, bs_B, el, List.reverse_append]
    rfl
set_option maxRecDepth 100000 in
set_option maxHeartbeats 4000000 in
theorem impl_Before_ok (a b : ByteArray) (w : World) (ha : okB (bs a) = true) (hb : okB (bs b) = true) :
    Calls Try.prog 23 #[.string a, .string b] w fun e w' => e = .returned (.bool (beforeB (bs a) (bs b))) ∧ Below w.heap.size w w' := by
  have sa := ok_short ha
  have sb := ok_short hb
  rw [bs_length] at sa sb
  have HNA : Hid (∀ x ∈ labels (bs a), x ≠ []) := ok_filled ha
  have HNB : Hid (∀ x ∈ labels (bs b), x ≠ []) := ok_filled hb
  obtain ⟨xs, hxs⟩ := tx_rev a sa
  have hN : xs.length ≤ 61 := by
    rw [← txs_length, hxs, List.length_reverse]
    have := labels_count (bs a)
    rw [bs_length] at this
    omega
  have hres : beforeB (bs a) (bs b) = befL (txs xs) (labels (bs b)).reverse := by
    unfold beforeB beforeL
    rw [ha, hb, hxs]
    rfl
  rw [hres]
  have hA := impl_NameOk a
  have hB := impl_NameOk b
  rw [ha] at hA
  rw [hb] at hB
  have HX : Hid (txs xs = (labels (bs a)).reverse) := hxs
  obtain ⟨Y, hY⟩ : ∃ Y, (labels (bs b)).reverse = Y := ⟨_, rfl⟩
  have HY := hidIt hY
  rw [hY]
  have HS : Hid (a.size ≤ 60) := sa
  clear hxs ha hb hres sa hY
  refine (callsIn_wide (n := 3)).1 ?_
  refine callsIn_of_wp_marks Try.func23 rfl trivial ?_ rfl
  simp only [Try.ntmps23, List.size_toArray, List.length_cons, List.length_nil, Nat.reduceAdd, Nat.reduceSub, Array.replicate_succ, Array.replicate_zero, List.push_toArray, List.append_toArray, List.nil_append, List.cons_append]
  gi_wp2_with (first
      | (refine ⟨trivial, ?_⟩; gi_at_call 21; refine (callsIn_wide.2 (hA _)).mono ?_; clear hA; rintro e w1 ⟨rfl, k1⟩; obtain ⟨c1, f1, k1', l1⟩ := box_kept k1)
      | (refine ⟨trivial, ?_⟩; gi_at_call 21; refine (callsIn_wide.2 (hB _)).mono ?_; rintro e w2 ⟨rfl, k2⟩; obtain ⟨c2, f2⟩ := cell_below k2 c1 f1 l1)
      | (refine ⟨trivial, ?_⟩; gi_at_call 29; refine (fromTheEnd_in _ a _).mono ?_; rintro e w' ⟨rfl, rfl⟩))
  have kw : Below w.heap.size w w2 := k1'.trans (k2.mono (Nat.le_of_lt l1))
  have lw : w.heap.size < w2.heap.size := Nat.lt_of_lt_of_le l1 k2.size
  have b0 := Boxed.new w2 9 (.string b)
  have b1 := Boxed.new (w2.alloc (.cells #[.string b] 9)) 9 (.string a)
  simp only [World.size_alloc] at b1
  have hB0 : Below w.heap.size w ((w2.alloc (.cells #[.string b] 9)).alloc (.cells #[.string a] 9)) := (kw.alloc kw.size _).alloc (by have := kw.size; simp; omega) _
  have hne : w2.heap.size ≠ w.heap.size := by omega
  obtain ⟨c3, f3⟩ := cell_below (((Below.refl _ w2).alloc (Nat.le_refl _) (.cells #[.string b] 9)).alloc (by simp) (.cells #[.string a] 9)) c2 f2 lw
  refine wpIn_rangeFunc_ownF rfl (by omega) (gf := 35) (lb := #[.pointer (some ⟨w2.heap.size + 1, 0, none⟩)]) rfl trivial (enters_of Try.func35 (by kernel_rfl) rfl)
    (end_stops _ (by omega) (w2.heap.size + 1) w.heap.size a HS.out HNA.out xs HX.out _ (by simp) b1.cell) belowK_t (belowK_b (by simp; omega)) (Below.refl _ _) (fun _ => rfl)
    (fun pre W => (∃ r : ByteArray, r.size ≤ 60 ∧ Hid (Y = txs pre ++ (labels (bs r)).reverse ∧ ∀ x ∈ labels (bs r), x ≠ []) ∧ W.cell? ⟨w.heap.size, 0, none⟩ = some (.bool false) ∧ W.frozen? ⟨w.heap.size, 0, none⟩ = false ∧ W.cell? ⟨w2.heap.size, 0, none⟩ = some (.string r) ∧ W.frozen? ⟨w2.heap.size, 0, none⟩ = false) ∧ Below w.heap.size w W)
    (fun c pre W => (c = .ret ∧ ∃ v : Bool, Hid (∀ r, befL (txs pre ++ r) Y = v) ∧ W.cell? ⟨w.heap.size, 0, none⟩ = some (.bool v)) ∧ Below w.heap.size w W)
    (OwnFrom.and (Own.from (fun s A B row hs hg hr => by obtain ⟨r, h1, h2, c0, f0, c1, f1⟩ := hs; exact ⟨r, h1, h2, cell_kept c0 hg hr, (frozen_kept c0 hg hr).trans f0, cell_kept c1 hg hr, (frozen_kept c1 hg hr).trans f1⟩) _) (ownFrom_below (Nat.le_refl _) (by simp; omega)))
    (fun c => OwnFrom.and (Own.from (fun s A B row hs hg hr => by obtain ⟨h1, v, h2, c0⟩ := hs; exact ⟨h1, v, h2, cell_kept c0 hg hr⟩) _) (ownFrom_below (Nat.le_refl _) (by simp; omega)))
    ⟨⟨b, sb, hidIt ⟨HY.out.symm, HNB.out⟩, c3, f3, (b0.alloc _).cell, (b0.alloc _).frozen⟩, hB0⟩
    (fun x => { tmps := #[.string a, .string b, undef, undef, .pointer (some ⟨w.heap.size, 0, none⟩), .pointer (some ⟨w2.heap.size, 0, none⟩), .string x.1, undef, .string a, .bool true, .bool false, .bool false, .string b, .bool true, .bool false, .bool false, .string b, .string a, .func (.func 35) #[] #[.pointer (some ⟨w2.heap.size + 1, 0, none⟩)], .string x.1, undef, undef, undef, undef, undef, undef, undef, undef, undef, undef, undef, undef, undef, undef, undef], defers := [] }) ?assign ?body ?done ?stop
  case assign =>
    intro l x W K hK
    gi_wp2
    exact hK
  case body =>
    rintro l pre x W ⟨⟨r, hr, HR, hc0, hf0, hc1, hf1⟩, hBW⟩ hlt
    by_cases e : r = ByteArray.empty
    · subst e
      gi_wp2
      refine ⟨KeepsOthers.setCell _ _ _, ⟨rfl, false, hidIt (fun t => ?_), World.cell?_setCell_same' _ _ _ (by rw [hc0]; rfl)⟩, hBW.setCell (p := ⟨w.heap.size, 0, none⟩) (by simp) _⟩
      have := HR.out.1
      rw [show labels (bs ByteArray.empty) = [] from rfl, List.reverse_nil, List.append_nil] at this
      rw [this]
      show befL (txs (pre ++ [x]) ++ t) (txs pre) = false
      rw [txs, List.map_append]
      exact bef_none _ _
    · obtain ⟨r', o, hr', ho, hn', el, hC⟩ := last_of r e hr HR.out.2
      have he := not_empty e
      have hem := filled e
      have HY' : Hid (Y = txs pre ++ bs o :: (labels (bs r')).reverse) := by rw [← el]; exact HR.out.1
      have HN' := hidIt hn'
      have g0 : (W.setCell ⟨w2.heap.size, 0, none⟩ (.string r')).cell? ⟨w.heap.size, 0, none⟩ = some (.bool false) := by rw [cell_set_far hne]; exact hc0
      have g1 : (W.setCell ⟨w2.heap.size, 0, none⟩ (.string r')).cell? ⟨w2.heap.size, 0, none⟩ = some (.string r') := World.cell?_setCell_same' _ _ _ (by rw [hc1]; rfl)
      have i0 : (W.setCell ⟨w2.heap.size, 0, none⟩ (.string r')).frozen? ⟨w.heap.size, 0, none⟩ = false := by rw [World.frozen?_setCell]; exact hf0
      have i1 : (W.setCell ⟨w2.heap.size, 0, none⟩ (.string r')).frozen? ⟨w2.heap.size, 0, none⟩ = false := by rw [World.frozen?_setCell]; exact hf1
      have keep : Below w.heap.size w (W.setCell ⟨w2.heap.size, 0, none⟩ (.string r')) := hBW.setCell (p := ⟨w2.heap.size, 0, none⟩) kw.size _
      have keepW : Below w.heap.size W (W.setCell ⟨w2.heap.size, 0, none⟩ (.string r')) := (Below.refl _ W).setCell (p := ⟨w2.heap.size, 0, none⟩) kw.size _
      clear el hn'
      by_cases hx : x.1 = o
      · subst hx
        gi_wp2_with (refine ⟨trivial, ?_⟩; gi_at_call 30; refine (CallsIn.inRound l (callsIn_wide.2 (hC _))).mono ?_; rintro e w' ⟨rfl, rfl⟩)
        refine ⟨(KeepsOthers.setCell _ _ _).trans (KeepsOthers.drew _), keepW.drew, ⟨r', hr', hidIt ⟨?_, HN'.out⟩, g0, i0, g1, i1⟩, keep.drew⟩
        rw [HY'.out]
        show _ = txs (pre ++ [x]) ++ _
        rw [txs, txs, List.map_append, List.append_assoc]
        rfl
      · have hx' := neq_of hx
        gi_wp2_with (refine ⟨trivial, ?_⟩; gi_at_call 30; refine (CallsIn.inRound l (callsIn_wide.2 (hC _))).mono ?_; rintro e w' ⟨rfl, rfl⟩)
        refine ⟨((KeepsOthers.setCell _ _ _).trans (KeepsOthers.setCell _ _ _)).trans (KeepsOthers.drew _), ⟨rfl, _, hidIt (fun t => ?_), World.cell?_setCell_same' _ _ _ (by rw [g0]; rfl)⟩, (keep.setCell (p := ⟨w.heap.size, 0, none⟩) (by simp) _).drew⟩
        rw [HY'.out, less_of]
        show befL (txs (pre ++ [x]) ++ t) _ = _
        rw [txs, List.map_append]
        exact bef_part (fun k => hx (bs_inj k)) _ _
  case done =>
    rintro D ys W hD rfl ⟨⟨r, hr, HR, hc0, hf0, hc1, hf1⟩, hBW⟩ hK
    have hv : befL (txs ys) Y = !(r.toList.isEmpty) := by
      rw [HR.out.1, bef_end, Go.Lib.toList_data]
      by_cases e : r = ByteArray.empty
      · subst e; rfl
      · have e1 : bs r ≠ [] := fun k => e (empty_of k)
        rw [List.isEmpty_eq_false_iff.2 e1, List.isEmpty_eq_false_iff.2 (fun k => e1 (labels_eq_nil (List.reverse_eq_nil_iff.1 k)))]
    obtain ⟨v, ev⟩ : ∃ v, befL (txs ys) Y = v := ⟨_, rfl⟩
    have HV := hidIt (ev.symm.trans hv)
    have HE := hidIt ev
    clear hv ev
    gi_wp2
    have hK' := (KeepsOthers.setCell W ⟨w.heap.size, 0, none⟩ (.bool !(r.toList.isEmpty))).same D _ hK rfl
    refine ⟨by simp, .inl ⟨_, _, rfl, run_takeDeferred hK', ?_⟩⟩
    have hc5 := cell_kept (World.cell?_setCell_same' W ⟨w.heap.size, 0, none⟩ (.bool !(r.toList.isEmpty)) (by rw [hc0]; rfl)) (grownBy_putObj' _ D (.deferred none)) (fun r e => by cases e; exact ⟨_, hK', rfl⟩)
    refine ⟨.bool !(r.toList.isEmpty), ?_, by rw [HE.out, HV.out], (hBW.setCell (p := ⟨w.heap.size, 0, none⟩) (by simp) _).trans (belowK_b (w := w) (Nat.le_refl _) _ D _ _ (by simp at hD; omega) hK' rfl rfl)⟩
    simp [results, Try.f23, go_sem, hc5]
  case stop =>
    rintro D c pre W hD ⟨rest, hpre⟩ ⟨⟨rfl, v, hv, hc0⟩, hBW⟩ hK
    have HE : Hid (befL (txs xs) Y = v) := by
      have := hv.out (txs rest)
      rw [txs, txs, ← List.map_append, hpre] at this
      exact this
    gi_wp2
    refine ⟨by simp, .inl ⟨_, _, rfl, run_takeDeferred hK, ?_⟩⟩
    have hc5 := cell_kept hc0 (grownBy_putObj' _ D (.deferred none)) (fun r e => by cases e; exact ⟨_, hK, rfl⟩)
    refine ⟨.bool v, ?_, by rw [HE.out], hBW.trans (belowK_b (w := w) (Nat.le_refl _) W D _ _ (by simp at hD; omega) hK rfl rfl)⟩
    simp [results, Try.f23, go_sem, hc5]
theorem impl_Before (a b : ByteArray) (w : World) :
    Calls Try.prog 23 #[.string a, .string b] w fun e w' => e = .returned (.bool (beforeB (bs a) (bs b))) ∧ Below w.heap.size w w' := by
  cases ha : okB (bs a) with
  | false => exact impl_Before_not a b w (.inl ha)
  | true =>
    cases hb : okB (bs b) with
    | false => exact impl_Before_not a b w (.inr hb)
    | true => exact impl_Before_ok a b w ha hb
end Go.Proofs.Ytkclfnmhiojklaa.Nm
