/-
  The labels by the program's two iterators, forwards and from the end on; NameOk of the program.
-/
import Derived.Test.YtceddedlfdgbhaaGreatDoorNameJ
import Derived.RangeFuncNested
import Derived.RangeFuncBox
import Derived.RangeFuncBound
import Derived.RangeFuncCalls
import Derived.RangeFuncLeaves
import Derived.Shelf.Abstract
import Derived.Shelf.RegionOpen
import Derived.WalkKit
import Derived.OwnWalkIn
import Derived.TacticsInMore
import Derived.LoopNIn
import Derived.LoopIn
namespace Go.Proofs.YtceddedlfdgbhaaGreatDoor.Nm
open Go.ChangeShapes Go.WideShapes Go.ChangeAt Go.RowKit Go.Shelf
attribute [local go_sem] Oper.semAt_some
/-- A text of at most 60 bytes. -/
abbrev Tx := { x : ByteArray // x.size ≤ 60 }
abbrev txs (xs : List Tx) : List Bytes := xs.map (fun x => bs x.1)
theorem tx_of {l : List Bytes} (h : ∀ p ∈ l, p.length ≤ 60) : ∃ xs : List Tx, txs xs = l := by
  induction l with
  | nil => exact ⟨[], rfl⟩
  | cons p r ih =>
    obtain ⟨xs, e⟩ := ih (fun q hq => h q (by simp [hq]))
    exact ⟨⟨B p, by rw [B_size]; exact h p (by simp)⟩ :: xs, by simp [txs, ← e]⟩
theorem tx_labels (s : ByteArray) (h : s.size ≤ 60) : ∃ xs : List Tx, txs xs = labels (bs s) :=
  tx_of (fun p hp => by have := labels_short hp; rw [bs_length] at this; omega)
theorem empty_of {s : ByteArray} (h : bs s = []) : s = ByteArray.empty := bs_inj h
theorem not_empty {s : ByteArray} (h : s ≠ ByteArray.empty) : (s.toList == []) = false := by
  rw [Go.Lib.toList_data]
  exact beq_eq_false_iff_ne.2 (fun e => h (bs_inj e))
theorem filled {s : ByteArray} (h : s ≠ ByteArray.empty) : s.toList.isEmpty = false := by
  rw [Go.Lib.toList_data]
  exact List.isEmpty_eq_false_iff.2 (fun e => h (bs_inj e))
theorem tx_one {t : List Tx} {p : Bytes} (h : txs t = [p]) : ∃ x, t = [x] ∧ bs x.1 = p := by
  cases t with
  | nil => cases h
  | cons x r =>
    cases r with
    | nil => exact ⟨x, rfl, (List.cons.inj h).1⟩
    | cons y z => cases (List.cons.inj h).2
theorem tx_cons {t : List Tx} {p : Bytes} {l : List Bytes} (h : txs t = p :: l) : ∃ x r, t = x :: r ∧ bs x.1 = p ∧ txs r = l := by
  cases t with
  | nil => cases h
  | cons x r => exact ⟨x, r, rfl, (List.cons.inj h).1, (List.cons.inj h).2⟩
def lft (v m : Value) : Nat := match v, m with
  | .string s, .bool true => s.size + 1
  | _, _ => 0
set_option maxRecDepth 100000 in
set_option maxHeartbeats 2000000 in
theorem lab1_in (n l Bn n₀ : Nat) (hn : 1 ≤ n) (s : ByteArray) (hs : s.size ≤ 60) (xs : List Tx) (hxs : txs xs = labels (bs s)) (J Jx : List Tx → World → Prop) (hJ : ∀ pre W, J pre W → J pre W.drew)
    (hY : ∀ pre x W, J pre W → pre.length < xs.length → YieldAt Fence.wide (n - 1) Tryz.prog l #[.string x.1] W fun e W' =>
      (e = .returned (.bool true) ∧ J (pre ++ [x]) W' ∧ Below n₀ W W') ∨ (e = .returned (.bool false) ∧ Jx (pre ++ [x]) W'))
    (W : World) (hBn : W.cell? ⟨Bn, 0, none⟩ = some (.string s)) (h0 : J [] W) :
    CallsIn Fence.wide n Tryz.prog 112 #[.func (.yield l) #[] #[], .pointer (some ⟨Bn, 0, none⟩)] W fun e W' => (∃ v, e = .returned v) ∧
      ((∃ ys, ys = xs ∧ J ys W') ∨ (∃ pre, pre <+: xs ∧ Jx pre W')) := by
  refine callsIn_of_wp Tryz.func112 rfl trivial ?_ rfl
  simp only [Tryz.ntmps112, List.size_toArray, List.length_cons, List.length_nil, Nat.reduceAdd, Nat.reduceSub, Array.replicate_succ, Array.replicate_zero, List.push_toArray, List.append_toArray, List.nil_append, List.cons_append]
  gi_wp2
  gi_loopw [3, 4] (fun y z wr => ∃ (pre todo : List Tx) (r : ByteArray) (m : Bool), y = .string r ∧ z = .bool m ∧ xs = pre ++ todo ∧ r.size ≤ 60 ∧ Hid (txs todo = if m = true then split (bs r) else []) ∧ J pre wr)
    (fun y z _ => lft y z)
  case atStart =>
    by_cases e : s = ByteArray.empty
    · subst e
      have : xs = [] := by cases xs with
        | nil => rfl
        | cons a b => simp [txs, labels] at hxs
      subst this
      exact ⟨[], [], ByteArray.empty, false, rfl, by rw [Go.Lib.toList_data]; rfl, rfl, by decide, rfl, h0⟩
    · refine ⟨[], xs, s, true, rfl, by rw [filled e]; rfl, rfl, hs, ?_, h0⟩
      show txs xs = split (bs s)
      rw [hxs, labels_cons (fun k => e (empty_of k))]
  case round =>
    obtain ⟨pre, todo, r, m, rfl, rfl, hx, hr, HT, hJs⟩ := hrel
    cases m with
    | false =>
      have ht : todo = [] := by
        have := HT.out
        rw [if_neg (by simp)] at this
        exact List.map_eq_nil_iff.1 this
      subst ht
      gi_wp2
      go_end0
      exact ⟨⟨_, rfl⟩, .inl ⟨pre, by simp [hx], hJs⟩⟩
    | true =>
      have ht := HT.out
      rw [if_pos rfl] at ht
      clear HT
      rcases dot_cases (bs r) with hd | ⟨p, q, e, hp⟩
      · rw [split_whole hd] at ht
        obtain ⟨x, rfl, ht'⟩ := tx_one ht
        obtain rfl : x.1 = r := bs_inj ht'
        have hC := lib_Cut_none x.1
        obtain ⟨fn, tmps, assign, body, hy, hR⟩ := hY pre x wr hJs (by rw [hx]; simp)
        clear ht
        gi_wp2_with (refine ⟨trivial, ?_⟩; gi_at_call 113; refine (callsIn_wide.2 (hC _ hd)).mono ?_; rintro e w' ⟨rfl, rfl⟩)
        refine hR.mono ?_
        rintro e W3 (⟨rfl, hJ3, hk3⟩ | ⟨rfl, hJx3⟩)
        · gi_wp2
          go_roundw
          case rel => exact ⟨pre ++ [x], [], ByteArray.empty, false, rfl, rfl, by simp [hx], by decide, rfl, hJ3⟩
          case measure => simp [lft]
        · gi_wp2
          refine bodyPost_ret (results_none rfl _ _ _) rfl ?_
          exact ⟨⟨_, rfl⟩, .inr ⟨pre ++ [x], ⟨[], by simp [hx]⟩, hJx3⟩⟩
      · rw [e, split_cut hp] at ht
        obtain ⟨x, todo, rfl, ht1, ht2'⟩ := tx_cons ht
        have ht2 : Hid (txs todo = split q) := ht2'
        clear ht2'
        have hxp : x.1 = B p := bs_inj (by rw [ht1, bs_B])
        obtain rfl : r = B (p ++ 46 :: q) := bs_inj (by rw [e, bs_B])
        have hl : (p ++ 46 :: q).length ≤ 60 := by rw [B_size] at hr; exact hr
        have hC := fun w => lib_Cut_some p q w hp (by have : (60 : Nat) ≤ maxLen := by decide
                                                      omega)
        obtain ⟨fn, tmps, assign, body, hy, hR⟩ := hY pre x wr.drew (hJ _ _ hJs) (by rw [hx]; simp)
        rw [hxp] at hy
        have HL := hidIt hl
        have HE : Hid (xs = pre ++ x :: todo) := hx
        clear ht e hl hr hx hxs ht1
        gi_wp2_with (refine ⟨trivial, ?_⟩; gi_at_call 113; refine (callsIn_wide.2 (hC _)).mono ?_; rintro e w' ⟨rfl, rfl⟩)
        refine hR.mono ?_
        rintro e W3 (⟨rfl, hJ3, hk3⟩ | ⟨rfl, hJx3⟩)
        · gi_wp2
          go_roundw
          case rel =>
            refine ⟨pre ++ [x], todo, B q, true, rfl, rfl, by rw [HE.out]; simp, ?_, ?_, hJ3⟩
            · have := HL.out; rw [B_size]; simp at this; omega
            · show txs todo = split (bs (B q))
              rw [bs_B]; exact ht2.out
          case measure => show (B q).size + 1 < (B (p ++ 46 :: q)).size + 1; rw [B_size, B_size]; simp; omega
        · gi_wp2
          refine bodyPost_ret (results_none rfl _ _ _) rfl ?_
          exact ⟨⟨_, rfl⟩, .inr ⟨pre ++ [x], ⟨todo, by rw [HE.out]; simp⟩, hJx3⟩⟩
set_option maxHeartbeats 1000000 in
theorem labelsOf_in (n : Nat) (s : ByteArray) (w : World) :
    CallsIn Fence.wide n Tryz.prog 101 #[.string s] w fun e w' => e = .returned (.func (.func 112) #[] #[.pointer (some ⟨w.heap.size, 0, none⟩)]) ∧ w' = w.alloc (.cells #[.string s] 9) := by
  refine callsIn_of_wp Tryz.func101 rfl trivial ?_ rfl
  simp only [Tryz.ntmps101, List.size_toArray, List.length_cons, List.length_nil, Nat.reduceAdd, Nat.reduceSub, Array.replicate_succ, Array.replicate_zero, List.push_toArray, List.append_toArray, List.nil_append, List.cons_append]
  gi_wp2
  go_ret
  exact ⟨rfl, rfl⟩
theorem abides_drew {β : Type} {b : Nat} {J : β → World → Prop} (h : AbidesFrom b J) : ∀ s W, J s W → J s W.drew := fun s W hs =>
  h s W W.drew none hs ⟨rfl, rfl, rfl, Nat.le_refl _, fun _ _ _ => rfl⟩ (fun r e => by cases e)
theorem labels_stops (n : Nat) (hn : 1 ≤ n) (Bn n₀ : Nat) (s : ByteArray) (hs : s.size ≤ 60) (xs : List Tx) (hxs : txs xs = labels (bs s)) (w : World) (hBn : Bn < w.heap.size)
    (hc : w.cell? ⟨Bn, 0, none⟩ = some (.string s)) :
    SeqStopsK Fence.wide n Tryz.prog 112 #[.pointer (some ⟨Bn, 0, none⟩)] (fun x : Tx => #[Value.string x.1]) (Below n₀) (fun ys => ys = xs) (fun pre => pre <+: xs) xs.length w := fun l J Jx W hW hJ _ hY h0 =>
  lab1_in n l Bn n₀ hn s hs xs hxs J Jx (abides_drew hJ) hY W ((hW.cell (p := ⟨Bn, 0, none⟩) hBn).trans hc) h0
end Go.Proofs.YtceddedlfdgbhaaGreatDoor.Nm
