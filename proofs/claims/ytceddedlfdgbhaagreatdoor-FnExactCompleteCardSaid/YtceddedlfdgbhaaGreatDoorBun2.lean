/-
  An apex: a name that is not the root. (Written by wip/mkNod.py.)
  hasLabels of the program. (Written by wip/mkNod.py.)
  Books in plain words: Entries, which is Newer, what is found under a Key, what two books come to. No program in sight.
  A list of Buckets as it lies in memory: 3 cells each; a row of the call's own; one that came in. (Written by wip/mkrow.py.)
  slices.Insert at Buckets: one put in at a place, in a row of the call's own: at the end, with room, without. (Written by wip/mkins.py.)
-/
import Derived.Test.YtceddedlfdgbhaaGreatDoorNameT
import Derived.Test.YtceddedlfdgbhaaGreatDoorNameL
import Derived.WalkKit
import Derived.Test.YtceddedlfdgbhaaGreatDoorMem
import Derived.Test.YtceddedlfdgbhaaGreatDoorProg
import Derived.Laws.OwnMore
import Derived.Deep.OwnRows
import Derived.Deep.Strs
import Derived.OwnWalk
import Derived.OpenShut
import Derived.Laws.AppendOwn
import Derived.Lib.SmallJoins
import Derived.Shelf.Spec.SlicesInsert
import Derived.Lib.AppendZerosOnto
import Derived.Laws.CopyRow
import Derived.Deep.RegionLaw
namespace Go.Proofs.YtceddedlfdgbhaaGreatDoor.Nd
open Go.ChangeShapes Go.WideShapes Go.ChangeAt Go.RowKit
set_option linter.unusedVariables false
theorem hidA {p : Prop} (h : p) : Hid p := h
def apexB (s : ByteArray) : Bool := Nm.okB s.data.toList && decide (s.size ≠ 0)
theorem txt_empty (s : ByteArray) : (s.toList == []) = decide (s.size = 0) := by
  rw [Go.Lib.toList_data]
  have e : s.data.toList.length = s.size := by cases s; simp [ByteArray.size]
  cases hl : s.data.toList with
  | nil => rw [hl] at e; rw [decide_eq_true (by simpa using e.symm)]; rfl
  | cons a b => rw [hl] at e; rw [decide_eq_false (by simp at e; omega)]; rfl
set_option maxRecDepth 100000 in
set_option maxHeartbeats 4000000 in
theorem spec_l17Apex (s : ByteArray) (w : World) : Calls Tryz.prog 37 #[.string s] w fun en w' => en = .returned (.bool (apexB s)) ∧ Below w.heap.size w w' := by
  have C : Hid (∀ W, Calls Tryz.prog 57 #[.string s] W fun e w' => e = .returned (.bool (Nm.okB s.data.toList)) ∧ Below W.heap.size W w') := hidA (fun W => Nm.spec_NameOk s W)
  have HOK : Hid (apexB s = (Nm.okB s.data.toList && decide (s.size ≠ 0))) := hidA rfl
  have he := txt_empty s
  generalize Nm.okB s.data.toList = k1 at C HOK
  cases k1 with
  | false =>
    rw [HOK.out, Bool.false_and]
    go_enter Tryz.func37, Tryz.ntmps37
    go_wp2_with (fail)
    refine (C.out _).mono ?_
    rintro en w1 ⟨rfl, kk⟩
    have HB := hidA kk
    clear kk
    go_wp2_with (fail)
    go_ret
    exact ⟨rfl, HB.out⟩
  | true =>
    rw [HOK.out, Bool.true_and]
    by_cases h0 : s.size = 0
    · rw [decide_eq_true h0] at he
      rw [decide_eq_false (p := s.size ≠ 0) (by omega)]
      clear h0 HOK
      go_enter Tryz.func37, Tryz.ntmps37
      go_wp2_with (fail)
      refine (C.out _).mono ?_
      rintro en w1 ⟨rfl, kk⟩
      have HB := hidA kk
      clear kk
      go_wp2_with (fail)
      go_ret
      exact ⟨rfl, HB.out⟩
    · rw [decide_eq_false h0] at he
      rw [decide_eq_true (p := s.size ≠ 0) h0]
      clear h0 HOK
      go_enter Tryz.func37, Tryz.ntmps37
      go_wp2_with (fail)
      refine (C.out _).mono ?_
      rintro en w1 ⟨rfl, kk⟩
      have HB := hidA kk
      clear kk
      go_wp2_with (fail)
      go_ret
      exact ⟨rfl, HB.out⟩
end Go.Proofs.YtceddedlfdgbhaaGreatDoor.Nd
namespace Go.Proofs.YtceddedlfdgbhaaGreatDoor.Nd
open Go.ChangeShapes Go.WideShapes Go.ChangeAt Go.RowKit
set_option linter.unusedVariables false
set_option maxRecDepth 100000 in
set_option maxHeartbeats 4000000 in
theorem impl_hasLabels (s : ByteArray) (w : World) : Calls Tryz.prog 68 #[.string s] w fun en w' => en = .returned (.bool (apexB s)) ∧ Below w.heap.size w w' := by
  have C : Hid (∀ W, Calls Tryz.prog 87 #[.string s] W fun e w' => e = .returned (.bool (Nm.okB s.data.toList)) ∧ Below W.heap.size W w') := hidA (fun W => Nm.impl_NameOk s W)
  have HOK : Hid (apexB s = (Nm.okB s.data.toList && decide (s.size ≠ 0))) := hidA rfl
  have he := txt_empty s
  generalize Nm.okB s.data.toList = k1 at C HOK
  by_cases h0 : s.size = 0
  · rw [decide_eq_true h0] at he
    rw [HOK.out, decide_eq_false (p := s.size ≠ 0) (by omega), Bool.and_false]
    clear h0 HOK
    go_enter Tryz.func68, Tryz.ntmps68
    go_wp2_with (fail)
    go_ret
    exact ⟨rfl, Below.refl _ _⟩
  · rw [decide_eq_false h0] at he
    rw [HOK.out, decide_eq_true (p := s.size ≠ 0) h0, Bool.and_true]
    clear h0 HOK
    go_enter Tryz.func68, Tryz.ntmps68
    go_wp2_with (fail)
    refine (C.out _).mono ?_
    rintro en w1 ⟨rfl, kk⟩
    have HB := hidA kk
    clear kk
    go_wp2_with (fail)
    go_ret
    exact ⟨rfl, HB.out⟩
end Go.Proofs.YtceddedlfdgbhaaGreatDoor.Nd
namespace Go.Proofs.YtceddedlfdgbhaaGreatDoor.Bk
set_option linter.unusedVariables false
abbrev Bytes := List UInt8
structure En where
  key : Bytes
  value : Bytes
  time : Int
  node : Int
  gone : Bool
  deriving DecidableEq
def okE (e : En) : Bool := decide (1 ≤ e.key.length) && decide (e.key.length ≤ 40) && decide (e.value.length ≤ 40) && (!e.gone || decide (e.value.length = 0)) && decide (1 ≤ e.time) && decide (e.time ≤ 1000000) && decide (0 ≤ e.node) && decide (e.node ≤ 7)
def newB (a b : En) : Bool :=
  if a.time ≠ b.time then decide (b.time < a.time)
  else if a.node ≠ b.node then decide (b.node < a.node)
  else if a.gone ≠ b.gone then a.gone
  else decide (b.value < a.value)
theorem newB_1 {a b : En} (h : a.time ≠ b.time) : newB a b = decide (b.time < a.time) := by unfold newB; rw [if_pos h]
theorem newB_2 {a b : En} (h : a.time = b.time) (k : a.node ≠ b.node) : newB a b = decide (b.node < a.node) := by unfold newB; rw [if_neg (by simp [h]), if_pos k]
theorem newB_3 {a b : En} (h : a.time = b.time) (k : a.node = b.node) (g : a.gone ≠ b.gone) : newB a b = a.gone := by unfold newB; rw [if_neg (by simp [h]), if_neg (by simp [k]), if_pos g]
theorem newB_4 {a b : En} (h : a.time = b.time) (k : a.node = b.node) (g : a.gone = b.gone) : newB a b = decide (b.value < a.value) := by unfold newB; rw [if_neg (by simp [h]), if_neg (by simp [k]), if_neg (by simp [g])]
theorem lt_total {a b : Bytes} (h : ¬ a < b) (k : ¬ b < a) : a = b := List.le_antisymm k h
theorem new_irrefl (a : En) : newB a a = false := by
  unfold newB
  simp [List.lt_irrefl]
theorem new_asymm {a b : En} (h : newB a b = true) : newB b a = false := by
  unfold newB at h ⊢
  by_cases h1 : a.time = b.time
  · rw [if_neg (by simp [h1])] at h
    rw [if_neg (by simp [h1])]
    by_cases h2 : a.node = b.node
    · rw [if_neg (by simp [h2])] at h
      rw [if_neg (by simp [h2])]
      by_cases h3 : a.gone = b.gone
      · rw [if_neg (by simp [h3])] at h
        rw [if_neg (by simp [h3])]
        exact decide_eq_false (fun k => List.lt_irrefl _ (List.lt_trans k (of_decide_eq_true h)))
      · rw [if_pos h3] at h
        rw [if_pos (fun e => h3 e.symm)]
        cases hb : b.gone
        · rfl
        · rw [h, hb] at h3; exact absurd rfl h3
    · rw [if_pos h2] at h
      rw [if_pos (fun e => h2 e.symm)]
      have := of_decide_eq_true h
      exact decide_eq_false (by omega)
  · rw [if_pos h1] at h
    rw [if_pos (fun e => h1 e.symm)]
    have := of_decide_eq_true h
    exact decide_eq_false (by omega)
/-- Of two Entries of which none is Newer all is alike but the Key. -/
theorem new_total {a b : En} (h : newB a b = false) (k : newB b a = false) : a.time = b.time ∧ a.node = b.node ∧ a.gone = b.gone ∧ a.value = b.value := by
  unfold newB at h k
  by_cases h1 : a.time = b.time
  · rw [if_neg (by simp [h1])] at h
    rw [if_neg (by simp [h1])] at k
    by_cases h2 : a.node = b.node
    · rw [if_neg (by simp [h2])] at h
      rw [if_neg (by simp [h2])] at k
      by_cases h3 : a.gone = b.gone
      · rw [if_neg (by simp [h3])] at h
        rw [if_neg (by simp [h3])] at k
        exact ⟨h1, h2, h3, lt_total (of_decide_eq_false k) (of_decide_eq_false h)⟩
      · rw [if_pos h3] at h
        rw [if_pos (fun e => h3 e.symm)] at k
        exact absurd (h.trans k.symm) h3
    · rw [if_pos h2] at h
      rw [if_pos (fun e => h2 e.symm)] at k
      have h' := of_decide_eq_false h
      have k' := of_decide_eq_false k
      exact absurd (by omega) h2
  · rw [if_pos h1] at h
    rw [if_pos (fun e => h1 e.symm)] at k
    have h' := of_decide_eq_false h
    have k' := of_decide_eq_false k
    exact absurd (by omega) h1
theorem new_trans {a b c : En} (h : newB a b = true) (k : newB b c = true) : newB a c = true := by
  unfold newB at h k ⊢
  by_cases t1 : a.time = b.time
  · rw [if_neg (by simp [t1])] at h
    by_cases t2 : b.time = c.time
    · rw [if_neg (by simp [t2])] at k
      rw [if_neg (by simp [t1, t2])]
      by_cases n1 : a.node = b.node
      · rw [if_neg (by simp [n1])] at h
        by_cases n2 : b.node = c.node
        · rw [if_neg (by simp [n2])] at k
          rw [if_neg (by simp [n1, n2])]
          by_cases g1 : a.gone = b.gone
          · rw [if_neg (by simp [g1])] at h
            by_cases g2 : b.gone = c.gone
            · rw [if_neg (by simp [g2])] at k
              rw [if_neg (by simp [g1, g2])]
              exact decide_eq_true (List.lt_trans (of_decide_eq_true k) (of_decide_eq_true h))
            · rw [if_pos g2] at k
              rw [if_pos (by rw [g1]; exact g2), g1]
              exact k
          · rw [if_pos g1] at h
            by_cases g2 : b.gone = c.gone
            · rw [if_pos (by rw [← g2]; exact g1)]
              exact h
            · rw [if_pos g2] at k
              exact absurd (h.trans k.symm) g1
        · rw [if_pos n2] at k
          rw [if_pos (by rw [n1]; exact n2), n1]
          exact k
      · rw [if_pos n1] at h
        have h' := of_decide_eq_true h
        by_cases n2 : b.node = c.node
        · rw [if_pos (by rw [← n2]; exact n1), ← n2]
          exact h
        · rw [if_pos n2] at k
          have k' := of_decide_eq_true k
          rw [if_pos (by omega)]
          exact decide_eq_true (by omega)
    · rw [if_pos t2] at k
      rw [if_pos (by rw [t1]; exact t2), t1]
      exact k
  · rw [if_pos t1] at h
    have h' := of_decide_eq_true h
    by_cases t2 : b.time = c.time
    · rw [if_pos (by rw [← t2]; exact t1), ← t2]
      exact h
    · rw [if_pos t2] at k
      have k' := of_decide_eq_true k
      rw [if_pos (by omega)]
      exact decide_eq_true (by omega)
theorem en_ext {a b : En} (hk : a.key = b.key) (h : newB a b = false) (k : newB b a = false) : a = b := by
  obtain ⟨h1, h2, h3, h4⟩ := new_total h k
  cases a
  cases b
  simp_all
/-- Keys that rise. -/
def Ris (L : List En) : Prop := L.Pairwise fun a b => a.key < b.key
def look (L : List En) (k : Bytes) : Option En := L.find? fun e => decide (e.key = k)
theorem look_nil (k : Bytes) : look [] k = none := rfl
theorem look_cons (a : En) (L : List En) (k : Bytes) : look (a :: L) k = if a.key = k then some a else look L k := by
  unfold look
  rw [List.find?_cons]
  by_cases h : a.key = k
  · rw [if_pos h]; simp [h]
  · rw [if_neg h]; simp [h]
theorem look_some {L : List En} {k : Bytes} {e : En} (h : look L k = some e) : e ∈ L ∧ e.key = k := by
  unfold look at h
  exact ⟨List.mem_of_find?_eq_some h, by simpa using List.find?_some h⟩
theorem look_none {L : List En} {k : Bytes} (h : look L k = none) : ∀ e ∈ L, e.key ≠ k := by
  unfold look at h
  intro e he
  have := List.find?_eq_none.1 h e he
  simpa using this
theorem look_none_of {L : List En} {k : Bytes} (h : ∀ e ∈ L, e.key ≠ k) : look L k = none := by
  unfold look
  exact List.find?_eq_none.2 (fun e he => by simpa using h e he)
theorem ris_cons {a : En} {L : List En} : Ris (a :: L) ↔ (∀ b ∈ L, a.key < b.key) ∧ Ris L := List.pairwise_cons
theorem look_mem {L : List En} (h : Ris L) {e : En} (he : e ∈ L) : look L e.key = some e := by
  induction L with
  | nil => cases he
  | cons a L ih =>
    obtain ⟨h1, h2⟩ := ris_cons.1 h
    rw [look_cons]
    rcases List.mem_cons.1 he with rfl | he
    · rw [if_pos rfl]
    · rw [if_neg (fun e' => List.lt_irrefl _ (by have := h1 e he; rw [e'] at this; exact this))]
      exact ih h2 he
/-- Two books in which the same is found are one. -/
theorem ris_ext {L M : List En} (hL : Ris L) (hM : Ris M) (h : ∀ k, look L k = look M k) : L = M := by
  induction L generalizing M with
  | nil =>
    cases M with
    | nil => rfl
    | cons b M => have := h b.key; rw [look_nil, look_cons, if_pos rfl] at this; cases this
  | cons a L ih =>
    cases M with
    | nil => have := h a.key; rw [look_nil, look_cons, if_pos rfl] at this; cases this
    | cons b M =>
      obtain ⟨a1, a2⟩ := ris_cons.1 hL
      obtain ⟨b1, b2⟩ := ris_cons.1 hM
      have ea := h a.key
      have eb := h b.key
      rw [look_cons, if_pos rfl] at ea
      rw [look_cons b, if_pos rfl] at eb
      have hab : a = b := by
        obtain ⟨ma, _⟩ := look_some ea.symm
        obtain ⟨mb, _⟩ := look_some eb
        rcases List.mem_cons.1 ma with e | ma
        · exact e
        · rcases List.mem_cons.1 mb with e | mb
          · exact e.symm
          · exact absurd (List.lt_trans (a1 b mb) (b1 a ma)) (List.lt_irrefl _)
      subst hab
      rw [ih a2 b2 (fun k => ?_)]
      have hk := h k
      rw [look_cons, look_cons] at hk
      by_cases e : a.key = k
      · rw [look_none_of (fun x hx => by intro e'; have := a1 x hx; rw [e', e] at this; exact List.lt_irrefl _ this), look_none_of (fun x hx => by intro e'; have := b1 x hx; rw [e', e] at this; exact List.lt_irrefl _ this)]
      · rw [if_neg e, if_neg e] at hk
        exact hk
/-- Of two that may be there the one than which the other is not Newer. -/
def pickE : Option En → Option En → Option En
  | none, y => y
  | some x, none => some x
  | some x, some y => some (if newB y x then y else x)
/-- J is what A and B come to. -/
structure IsJoin (A B J : List En) : Prop where
  ris : Ris J
  at' : ∀ k, look J k = pickE (look A k) (look B k)
theorem IsJoin.unique {A B J K : List En} (h : IsJoin A B J) (k : IsJoin A B K) : J = K := ris_ext h.ris k.ris (fun x => (h.at' x).trans (k.at' x).symm)
/-- What two books come to, one way to reckon it. -/
def mergeE : List En → List En → List En
  | [], B => B
  | a :: A, [] => a :: A
  | a :: A, b :: B => if a.key < b.key then a :: mergeE A (b :: B) else if b.key < a.key then b :: mergeE (a :: A) B else (if newB b a then b else a) :: mergeE A B
  termination_by A B => A.length + B.length
theorem mergeE_nil (B : List En) : mergeE [] B = B := by unfold mergeE; rfl
theorem mergeE_right (A : List En) : mergeE A [] = A := by
  cases A with
  | nil => exact mergeE_nil []
  | cons a A => unfold mergeE; rfl
theorem mergeE_cons (a b : En) (A B : List En) : mergeE (a :: A) (b :: B) = if a.key < b.key then a :: mergeE A (b :: B) else if b.key < a.key then b :: mergeE (a :: A) B else (if newB b a then b else a) :: mergeE A B := by
  conv => lhs; unfold mergeE
theorem pick_none_right (x : Option En) : pickE x none = x := by cases x <;> rfl
theorem merge_mem : ∀ (A B : List En) {e : En}, e ∈ mergeE A B → e ∈ A ∨ e ∈ B
  | [], B, e, h => by rw [mergeE_nil] at h; exact .inr h
  | a :: A, [], e, h => by rw [mergeE_right] at h; exact .inl h
  | a :: A, b :: B, e, h => by
    rw [mergeE_cons] at h
    by_cases h1 : a.key < b.key
    · rw [if_pos h1] at h
      rcases List.mem_cons.1 h with rfl | h
      · exact .inl (List.mem_cons_self ..)
      · rcases merge_mem A (b :: B) h with h | h
        · exact .inl (List.mem_cons_of_mem _ h)
        · exact .inr h
    · rw [if_neg h1] at h
      by_cases h2 : b.key < a.key
      · rw [if_pos h2] at h
        rcases List.mem_cons.1 h with rfl | h
        · exact .inr (List.mem_cons_self ..)
        · rcases merge_mem (a :: A) B h with h | h
          · exact .inl h
          · exact .inr (List.mem_cons_of_mem _ h)
      · rw [if_neg h2] at h
        rcases List.mem_cons.1 h with h | h
        · cases hn : newB b a
          · rw [hn] at h; exact .inl (by rw [h]; exact List.mem_cons_self ..)
          · rw [hn] at h; exact .inr (by rw [h]; exact List.mem_cons_self ..)
        · rcases merge_mem A B h with h | h
          · exact .inl (List.mem_cons_of_mem _ h)
          · exact .inr (List.mem_cons_of_mem _ h)
  termination_by A B => A.length + B.length
theorem merge_join : ∀ (A B : List En), Ris A → Ris B → IsJoin A B (mergeE A B)
  | [], B, _, hB => by rw [mergeE_nil]; exact ⟨hB, fun k => rfl⟩
  | a :: A, [], hA, _ => by rw [mergeE_right]; exact ⟨hA, fun k => by rw [look_nil, pick_none_right]⟩
  | a :: A, b :: B, hA, hB => by
    obtain ⟨a1, a2⟩ := ris_cons.1 hA
    obtain ⟨b1, b2⟩ := ris_cons.1 hB
    have noA : ∀ k, a.key = k → look A k = none := fun k e => look_none_of (fun x hx e' => by have := a1 x hx; rw [e', e] at this; exact List.lt_irrefl _ this)
    have noB : ∀ k, b.key = k → look B k = none := fun k e => look_none_of (fun x hx e' => by have := b1 x hx; rw [e', e] at this; exact List.lt_irrefl _ this)
    rw [mergeE_cons]
    by_cases h1 : a.key < b.key
    · rw [if_pos h1]
      have ih := merge_join A (b :: B) a2 hB
      refine ⟨ris_cons.2 ⟨fun x hx => ?_, ih.ris⟩, fun k => ?_⟩
      · rcases merge_mem A (b :: B) hx with h | h
        · exact a1 x h
        · rcases List.mem_cons.1 h with rfl | h
          · exact h1
          · exact List.lt_trans h1 (b1 x h)
      · rw [look_cons, look_cons a, ih.at']
        by_cases e : a.key = k
        · rw [if_pos e, if_pos e, look_none_of (fun x hx e' => ?_), pick_none_right]
          rcases List.mem_cons.1 hx with rfl | h
          · rw [e', e] at h1; exact List.lt_irrefl _ h1
          · have := List.lt_trans h1 (b1 x h); rw [e', e] at this; exact List.lt_irrefl _ this
        · rw [if_neg e, if_neg e]
    · rw [if_neg h1]
      by_cases h2 : b.key < a.key
      · rw [if_pos h2]
        have ih := merge_join (a :: A) B hA b2
        refine ⟨ris_cons.2 ⟨fun x hx => ?_, ih.ris⟩, fun k => ?_⟩
        · rcases merge_mem (a :: A) B hx with h | h
          · rcases List.mem_cons.1 h with rfl | h
            · exact h2
            · exact List.lt_trans h2 (a1 x h)
          · exact b1 x h
        · rw [look_cons, look_cons b B, ih.at']
          by_cases e : b.key = k
          · rw [if_pos e, if_pos e, look_none_of (L := a :: A) (fun x hx e' => ?_)]
            · rfl
            · rcases List.mem_cons.1 hx with rfl | h
              · rw [e', e] at h2; exact List.lt_irrefl _ h2
              · have := List.lt_trans h2 (a1 x h); rw [e', e] at this; exact List.lt_irrefl _ this
          · rw [if_neg e, if_neg e]
      · rw [if_neg h2]
        have hk : a.key = b.key := lt_total h1 h2
        have ih := merge_join A B a2 b2
        have kk : (if newB b a = true then b else a).key = a.key := by split <;> simp [hk]
        refine ⟨ris_cons.2 ⟨fun x hx => ?_, ih.ris⟩, fun k => ?_⟩
        · rw [kk]
          rcases merge_mem A B hx with h | h
          · exact a1 x h
          · rw [hk]; exact b1 x h
        · rw [look_cons, look_cons a A, look_cons b B, ih.at', kk]
          by_cases e : a.key = k
          · rw [if_pos e, if_pos e, if_pos (show b.key = k from hk.symm.trans e)]
            rfl
          · rw [if_neg e, if_neg e, if_neg (fun e' => e (hk.trans e'))]
  termination_by A B => A.length + B.length
theorem merge_length : ∀ (A B : List En), (mergeE A B).length ≤ A.length + B.length
  | [], B => by rw [mergeE_nil]; simp
  | a :: A, [] => by rw [mergeE_right]; simp
  | a :: A, b :: B => by
    rw [mergeE_cons]
    split
    · have := merge_length A (b :: B); simp at this ⊢; omega
    · split
      · have := merge_length (a :: A) B; simp at this ⊢; omega
      · have := merge_length A B; simp at this ⊢; omega
  termination_by A B => A.length + B.length
/-- What may be there lies under the Key k. -/
def KeyAt (k : Bytes) (o : Option En) : Prop := ∀ e, o = some e → e.key = k
theorem look_at (L : List En) (k : Bytes) : KeyAt k (look L k) := fun e h => (look_some h).2
theorem pick_at {k : Bytes} {x y : Option En} (hx : KeyAt k x) (hy : KeyAt k y) : KeyAt k (pickE x y) := by
  intro e h
  cases x with
  | none => exact hy e h
  | some a =>
    cases y with
    | none => exact hx e h
    | some b =>
      have h' := Option.some.inj h
      cases hn : newB b a with
      | true => rw [hn, if_pos rfl] at h'; rw [← h']; exact hy b rfl
      | false => rw [hn, if_neg (by decide)] at h'; rw [← h']; exact hx a rfl
theorem pick_comm {k : Bytes} {x y : Option En} (hx : KeyAt k x) (hy : KeyAt k y) : pickE x y = pickE y x := by
  cases x with
  | none => rw [pick_none_right]; rfl
  | some a =>
    cases y with
    | none => rfl
    | some b =>
      show some _ = some _
      cases h1 : newB b a with
      | true => rw [new_asymm h1]; simp
      | false =>
        cases h2 : newB a b with
        | true => simp
        | false => simp [en_ext ((hx a rfl).trans (hy b rfl).symm) h2 h1]
theorem pick_self (x : Option En) : pickE x x = x := by
  cases x with
  | none => rfl
  | some a => show some _ = some _; rw [new_irrefl]; simp
/-- The Newer of two, as an order: none is Newer. -/
theorem not_new_trans {a b c : En} (hk : a.key = b.key) (h : newB a b = false) (k : newB b c = false) : newB a c = false := by
  cases hac : newB a c with
  | false => rfl
  | true =>
    cases hba : newB b a with
    | true => exact absurd (new_trans hba hac) (by rw [k]; decide)
    | false => rw [en_ext hk h hba] at hac; rw [hac] at k; cases k
theorem pick_assoc {k : Bytes} {x y z : Option En} (hx : KeyAt k x) (hy : KeyAt k y) (hz : KeyAt k z) : pickE (pickE x y) z = pickE x (pickE y z) := by
  cases x with
  | none => rfl
  | some a =>
    cases y with
    | none => rfl
    | some b =>
      cases z with
      | none => rfl
      | some c =>
        have ka := hx a rfl
        have kb := hy b rfl
        have kc := hz c rfl
        cases h1 : newB b a with
        | true =>
          cases h2 : newB c b with
          | true => simp [pickE, h1, h2, new_trans h2 h1]
          | false => simp [pickE, h1, h2]
        | false =>
          cases h2 : newB c b with
          | true => simp [pickE, h1, h2]
          | false => simp [pickE, h1, h2, not_new_trans (kc.trans kb.symm) h2 h1]
theorem IsJoin.comm {A B J : List En} (h : IsJoin A B J) : IsJoin B A J := ⟨h.ris, fun k => (h.at' k).trans (pick_comm (look_at A k) (look_at B k))⟩
theorem IsJoin.own {A : List En} (h : Ris A) : IsJoin A A A := ⟨h, fun k => (pick_self _).symm⟩
theorem IsJoin.again {A B J : List En} (h : IsJoin A B J) : IsJoin J A J :=
  ⟨h.ris, fun k => by rw [h.at', pick_comm (look_at A k) (look_at B k), pick_assoc (look_at B k) (look_at A k) (look_at A k), pick_self]⟩
theorem IsJoin.assoc {A B C J K L M : List En} (h1 : IsJoin A B J) (h2 : IsJoin B C K) (h3 : IsJoin J C L) (h4 : IsJoin A K M) : L = M :=
  ris_ext h3.ris h4.ris (fun k => by rw [h3.at', h1.at', h4.at', h2.at', pick_assoc (look_at A k) (look_at B k) (look_at C k)])
theorem IsJoin.mem {A B J : List En} (h : IsJoin A B J) {e : En} (he : e ∈ J) : e ∈ A ∨ e ∈ B := by
  have hl := (look_mem h.ris he).symm.trans (h.at' e.key)
  cases hA : look A e.key with
  | none => rw [hA] at hl; exact .inr (look_some (k := e.key) hl.symm).1
  | some a =>
    cases hB : look B e.key with
    | none => rw [hA, hB] at hl; exact .inl (by rw [Option.some.inj hl]; exact (look_some hA).1)
    | some b =>
      rw [hA, hB] at hl
      have h' := Option.some.inj hl
      cases hn : newB b a with
      | true => rw [hn, if_pos rfl] at h'; rw [h']; exact .inr (look_some hB).1
      | false => rw [hn, if_neg (by decide)] at h'; rw [h']; exact .inl (look_some hA).1
/-- A book: at most 80 Entries that are right, Key rising. -/
def risB : List En → Bool
  | [] => true
  | [_] => true
  | a :: b :: L => decide (a.key < b.key) && risB (b :: L)
theorem risB_iff : ∀ L : List En, risB L = true ↔ Ris L
  | [] => by simp [risB, Ris]
  | [a] => by simp [risB, Ris]
  | a :: b :: L => by
    unfold risB
    rw [Bool.and_eq_true, decide_eq_true_eq, risB_iff (b :: L), ris_cons (a := a)]
    refine ⟨fun ⟨h1, h2⟩ => ⟨fun x hx => ?_, h2⟩, fun ⟨h1, h2⟩ => ⟨h1 b (List.mem_cons_self ..), h2⟩⟩
    rcases List.mem_cons.1 hx with rfl | hx
    · exact h1
    · exact List.lt_trans h1 ((ris_cons.1 h2).1 x hx)
def okBk (L : List En) : Bool := decide (L.length ≤ 80) && L.all okE && risB L
theorem ok_ris {L : List En} (h : okBk L = true) : Ris L := by
  unfold okBk at h
  simp only [Bool.and_eq_true] at h
  exact (risB_iff L).1 h.2
theorem ok_len {L : List En} (h : okBk L = true) : L.length ≤ 80 := by
  unfold okBk at h
  simp only [Bool.and_eq_true, decide_eq_true_eq] at h
  exact h.1.1
theorem ok_all {L : List En} (h : okBk L = true) {e : En} (he : e ∈ L) : okE e = true := by
  unfold okBk at h
  simp only [Bool.and_eq_true, List.all_eq_true] at h
  exact h.1.2 e he
theorem ok_mk {L : List En} (h1 : L.length ≤ 80) (h2 : ∀ e ∈ L, okE e = true) (h3 : Ris L) : okBk L = true := by
  unfold okBk
  simp only [Bool.and_eq_true, decide_eq_true_eq, List.all_eq_true]
  exact ⟨⟨h1, h2⟩, (risB_iff L).2 h3⟩
/-- What Joined answers. -/
def joinB (A B : List En) : List En × Bool := if okBk A = true ∧ okBk B = true ∧ (mergeE A B).length ≤ 80 then (mergeE A B, true) else ([], false)
theorem join_ok {A B : List En} (h : (joinB A B).2 = true) : okBk A = true ∧ okBk B = true ∧ okBk (joinB A B).1 = true ∧ IsJoin A B (joinB A B).1 := by
  unfold joinB at h ⊢
  by_cases hc : okBk A = true ∧ okBk B = true ∧ (mergeE A B).length ≤ 80
  · rw [if_pos hc]
    have j := merge_join A B (ok_ris hc.1) (ok_ris hc.2.1)
    exact ⟨hc.1, hc.2.1, ok_mk hc.2.2 (fun e he => by rcases merge_mem A B he with h | h; exact ok_all hc.1 h; exact ok_all hc.2.1 h) j.ris, j⟩
  · rw [if_neg hc] at h; cases h
theorem join_no {A B : List En} (h : (joinB A B).2 = false) : (joinB A B).1 = [] := by
  unfold joinB at h ⊢
  by_cases hc : okBk A = true ∧ okBk B = true ∧ (mergeE A B).length ≤ 80
  · rw [if_pos hc] at h; cases h
  · rw [if_neg hc]
theorem joinB_len (A B : List En) : (joinB A B).1.length ≤ 80 := by
  unfold joinB
  by_cases hc : okBk A = true ∧ okBk B = true ∧ (mergeE A B).length ≤ 80
  · rw [if_pos hc]; exact hc.2.2
  · rw [if_neg hc]; simp
/-- Whoever shows what two books come to has what Joined answers. -/
theorem join_of {A B J : List En} (hA : okBk A = true) (hB : okBk B = true) (h : IsJoin A B J) : joinB A B = if J.length ≤ 80 then (J, true) else ([], false) := by
  have e : mergeE A B = J := (merge_join A B (ok_ris hA) (ok_ris hB)).unique h
  unfold joinB
  rw [e]
  by_cases hl : J.length ≤ 80
  · rw [if_pos ⟨hA, hB, hl⟩, if_pos hl]
  · rw [if_neg (fun h => hl h.2.2), if_neg hl]
end Go.Proofs.YtceddedlfdgbhaaGreatDoor.Bk
namespace Go.Proofs.YtceddedlfdgbhaaGreatDoor.Bu
open Go.ChangeShapes Go.WideShapes Go.ChangeAt Go.RowKit
set_option linter.unusedVariables false
theorem hidIt {p : Prop} (h : p) : Hid p := h
abbrev Rw := Int × Int × Int
/-- One as a value. -/
abbrev rv (x : Rw) : Value := .agg #[.int .i64 x.1, .int .i64 x.2.1, .int .i64 x.2.2]
abbrev rc (x : Rw) : Array Value := #[.int .i64 x.1, .int .i64 x.2.1, .int .i64 x.2.2]
def rat (L : List Rw) (i : Nat) : Rw := L.getD i (0, 0, 0)
theorem rat_at {L : List Rw} {i : Nat} (h : i < L.length) : rat L i = L[i] := by
  unfold rat
  rw [List.getD_eq_getElem?_getD, List.getElem?_eq_getElem h]
  rfl
theorem rat_getElem? {L : List Rw} {i : Nat} (h : i < L.length) : L[i]? = some (rat L i) := by rw [rat_at h, List.getElem?_eq_getElem h]
theorem rat_mem {L : List Rw} {i : Nat} (h : i < L.length) : rat L i ∈ L := by rw [rat_at h]; exact List.getElem_mem h
theorem rat_set {L : List Rw} {i j : Nat} {x : Rw} (h : i < L.length) : rat (L.set i x) j = if i = j then x else rat L j := by
  unfold rat
  rw [List.getD_eq_getElem?_getD, List.getD_eq_getElem?_getD, List.getElem?_set]
  by_cases e : i = j
  · subst e; simp [h]
  · simp [e]
theorem rat_take {L : List Rw} {k i : Nat} (h : i < k) : rat (L.take k) i = rat L i := by
  unfold rat
  rw [List.getD_eq_getElem?_getD, List.getD_eq_getElem?_getD, List.getElem?_take, if_pos h]
theorem take_rat {L : List Rw} {i : Nat} (h : i < L.length) : L.take (i + 1) = L.take i ++ [rat L i] := by
  rw [List.take_add_one, rat_getElem? h]
  rfl
theorem ext_rat {L M : List Rw} (h : L.length = M.length) (e : ∀ i, i < L.length → rat L i = rat M i) : L = M := by
  apply List.ext_getElem?
  intro i
  by_cases hi : i < L.length
  · rw [rat_getElem? hi, rat_getElem? (by omega), e i hi]
  · rw [List.getElem?_eq_none (by omega), List.getElem?_eq_none (by omega)]
def rcell (x : Rw) : Nat → Value
  | 0 => .int .i64 x.1
  | 1 => .int .i64 x.2.1
  | _ => .int .i64 x.2.2
def rcells : List Rw → List Value
  | [] => []
  | x :: r => .int .i64 x.1 :: .int .i64 x.2.1 :: .int .i64 x.2.2 :: rcells r
theorem rcells_cons (x : Rw) (r : List Rw) : rcells (x :: r) = .int .i64 x.1 :: .int .i64 x.2.1 :: .int .i64 x.2.2 :: rcells r := rfl
theorem rcells_length (L : List Rw) : (rcells L).length = L.length * 3 := by
  induction L with
  | nil => rfl
  | cons x r ih => simp only [rcells_cons, List.length_cons, ih]; omega
theorem rcells_append (L M : List Rw) : rcells (L ++ M) = rcells L ++ rcells M := by
  induction L with
  | nil => rfl
  | cons x r ih => rw [List.cons_append, rcells_cons, rcells_cons, ih]; rfl
theorem rcells_one (L : List Rw) : ∀ u ∈ rcells L, u.oneCell' = true := by
  induction L with
  | nil => intro u hu; cases hu
  | cons x r ih =>
    intro u hu
    rw [rcells_cons] at hu
    simp only [List.mem_cons] at hu
    rcases hu with rfl | rfl | rfl | hu
    · rfl
    · rfl
    · rfl
    · exact ih u hu
theorem rcells_get (L : List Rw) : ∀ i j, i < L.length → j < 3 → (rcells L)[i * 3 + j]? = some (rcell (rat L i) j) := by
  induction L with
  | nil => intro i j hi; simp at hi
  | cons x r ih =>
    intro i j hi hj
    cases i with
    | zero =>
      match j, hj with
      | 0, _ => rfl
      | 1, _ => rfl
      | 2, _ => rfl
    | succ k =>
      rw [rcells_cons, show (k + 1) * 3 + j = k * 3 + j + 1 + 1 + 1 by omega, List.getElem?_cons_succ, List.getElem?_cons_succ, List.getElem?_cons_succ, ih k j (by simp at hi; omega) hj]
      rfl
theorem rcells_set (L : List Rw) : ∀ i j (v : Value) (y : Rw), i < L.length → j < 3 → (∀ k, k < 3 → rcell y k = if k = j then v else rcell (rat L i) k) → (rcells L).set (i * 3 + j) v = rcells (L.set i y) := by
  induction L with
  | nil => intro i j v y hi; simp at hi
  | cons x r ih =>
    intro i j v y hi hj h
    cases i with
    | zero =>
      have e0 := h 0 (by omega)
      have e1 := h 1 (by omega)
      have e2 := h 2 (by omega)
      rw [List.set_cons_zero, rcells_cons y r, show (.int .i64 y.1 : Value) = rcell y 0 from rfl, show (.int .i64 y.2.1 : Value) = rcell y 1 from rfl, show (.int .i64 y.2.2 : Value) = rcell y 2 from rfl, e0, e1, e2]
      match j, hj with
      | 0, _ => rfl
      | 1, _ => rfl
      | 2, _ => rfl
    | succ k =>
      rw [rcells_cons, show (k + 1) * 3 + j = k * 3 + j + 1 + 1 + 1 by omega, List.set_cons_succ, List.set_cons_succ, List.set_cons_succ, ih k j v y (by simp at hi; omega) hj (fun n hn => h n hn)]
      rfl
theorem rcells_swap_len (L : List Rw) (i j : Nat) (x y : Rw) : ((L.set i x).set j y).length = L.length := by rw [List.length_set, List.length_set]
/-- A slice at address a reads as the list L. -/
structure Rd (w : World) (a : Option Addr) (L : List Rw) : Prop where
  cell : ∀ i, i < L.length → ∃ b off, a = some ⟨b, off, none⟩ ∧ ∀ j, j < 3 → w.cell? ⟨b, off + (i * 3 + j), none⟩ = some (rcell (rat L i) j)
theorem Rd.all {w : World} {a : Option Addr} {L : List Rw} (h : Rd w a L) {i : Nat} (hi : i < L.length) : ∃ b off, a = some ⟨b, off, none⟩ ∧ w.cell? ⟨b, off + i * 3, none⟩ = some (.int .i64 (rat L i).1) ∧ w.cell? ⟨b, off + i * 3 + 1, none⟩ = some (.int .i64 (rat L i).2.1) ∧ w.cell? ⟨b, off + i * 3 + 2, none⟩ = some (.int .i64 (rat L i).2.2) := by
  obtain ⟨b, off, e, c⟩ := h.cell i hi
  exact ⟨b, off, e, c 0 (by omega), by rw [Nat.add_assoc]; exact c 1 (by omega), by rw [Nat.add_assoc]; exact c 2 (by omega)⟩
theorem cell_block {w : World} {b o : Nat} {v : Value} (h : w.cell? ⟨b, o, none⟩ = some v) : b < w.heap.size := World.block_lt_of_cell? w ⟨b, o, none⟩ h
theorem Rd.kept {w w' : World} {a : Option Addr} {L : List Rw} (h : Rd w a L) (k : Below w.heap.size w w') : Rd w' a L :=
  ⟨fun i hi => by
    obtain ⟨b, off, e, c⟩ := h.cell i hi
    exact ⟨b, off, e, fun j hj => by rw [k.cell (by simpa using cell_block (c j hj))]; exact c j hj⟩⟩
theorem Rd.alloc {w : World} {a : Option Addr} {L : List Rw} (h : Rd w a L) (o : Obj) : Rd (w.alloc o) a L := h.kept ((Below.refl _ _).alloc (Nat.le_refl _) o)
theorem Rd.drew {w : World} {a : Option Addr} {L : List Rw} (h : Rd w a L) : Rd w.drew a L := ⟨h.cell⟩
theorem Rd.take {w : World} {a : Option Addr} {L : List Rw} (h : Rd w a L) (k : Nat) : Rd w a (L.take k) :=
  ⟨fun i hi => by
    rw [List.length_take] at hi
    rw [rat_take (by omega)]
    exact h.cell i (by omega)⟩
theorem Rd.nil (w : World) (a : Option Addr) : Rd w a [] := ⟨fun i hi => by simp at hi⟩
theorem Rd.none_nil {w : World} {L : List Rw} (h : Rd w none L) : L = [] := by
  cases L with
  | nil => rfl
  | cons x r => obtain ⟨b, off, e, _⟩ := h.cell 0 (by simp); cases e
/-- The slice v owns the list L in a row of the call's own. -/
def Own (w : World) (base : Nat) (v : Value) (L : List Rw) : Prop := w.ownsRow base 104 3 v L.length (rcells L)
theorem Own.form {w : World} {base : Nat} {v : Value} {L : List Rw} (h : Own w base v L) : ∃ a cap, v = .slice a L.length cap ∧ L.length ≤ cap ∧ cap ≤ maxLen ∧ Rd w a L ∧ (a = none → cap = 0) ∧ (∀ x, a = some x → ∃ g, x = ⟨g, 0, none⟩ ∧ base ≤ g ∧ g < w.heap.size) := by
  have h' := h
  rcases h.2 with ⟨rfl, h0⟩ | ⟨g, cap, cur, rfl, hb, hg, hn, hm, rest⟩
  · exact ⟨none, 0, by rw [h0], by omega, by decide, ⟨fun i hi => by omega⟩, fun _ => rfl, fun x hx => by cases hx⟩
  · refine ⟨some ⟨g, 0, none⟩, cap, rfl, hn, hm, ⟨fun i hi => ⟨g, 0, rfl, fun j hj => ?_⟩⟩, (fun e => by cases e), fun x hx => ⟨g, by cases hx; rfl, hb, (Array.getElem?_eq_some_iff.1 hg).1⟩⟩
    rw [Nat.zero_add, World.ownsRow.cellAt h' _ (by omega), rcells_get _ _ _ hi hj]
theorem Own.formN {w : World} {base m : Nat} {v : Value} {L : List Rw} (h : Own w base v L) (hn : L.length = m) : ∃ a cap, v = .slice a m cap ∧ m ≤ cap ∧ cap ≤ maxLen ∧ Rd w a L := by
  subst hn
  obtain ⟨a, cap, e, h1, h2, r, _⟩ := h.form
  exact ⟨a, cap, e, h1, h2, r⟩
theorem Own.kept {w w' : World} {base : Nat} {v : Value} {L : List Rw} (h : Own w base v L) (k : Below w.heap.size w w') : Own w' base v L :=
  World.ownsRow.kept (row := none) h ⟨k.os, k.tape, k.output, k.size, fun i hi _ => k.block i hi⟩ (by cases v.ownBlock <;> simp)
theorem Own.alloc {w : World} {base : Nat} {v : Value} {L : List Rw} (h : Own w base v L) (o : Obj) : Own (w.alloc o) base v L := World.ownsRow.alloc h o
theorem Own.drew {w : World} {base : Nat} {v : Value} {L : List Rw} (h : Own w base v L) : Own w.drew base v L := h
theorem Own.only {w w' : World} {base c : Nat} {v : Value} {L : List Rw} (h : Own w base v L) (k : Only c w w') (hc : c < base ∨ ∀ g, v.ownBlock = some g → g ≠ c) : Own w' base v L := by
  refine World.ownsRow.kept h (row := some c) ⟨k.os, k.tape, k.output, k.size, fun i hi hne => k.block i hi (fun e => hne (by rw [e]))⟩ ?_
  cases hv : v.ownBlock with
  | none => exact .inl rfl
  | some g =>
    refine .inr (fun e => ?_)
    cases e
    rcases hc with hc | hc
    · have := (World.ownsRow.lt h _ hv).1; omega
    · exact hc _ hv rfl
theorem Own.mono {w : World} {base b' : Nat} {v : Value} {L : List Rw} (h : Own w base v L) (hb : b' ≤ base) : Own w b' v L := by
  refine ⟨h.1, ?_⟩
  rcases h.2 with h0 | ⟨g, cap, cur, e, hb', r⟩
  · exact .inl h0
  · exact .inr ⟨g, cap, cur, e, by omega, r⟩
theorem Own.new (w : World) : Own (w.alloc (.cells #[] 104)) w.heap.size (.slice (some ⟨w.heap.size, 0, none⟩) 0 0) [] :=
  World.ownsRow_made w #[] 0 (Nat.le_refl _) (by decide) rfl
theorem Own.ofNil (w : World) (base : Nat) : Own w base (.slice none 0 0) [] := World.ownsRow_nil _ _ _ _
theorem Own.one (w : World) (x : Rw) {k : Nat} (h : w.heap.size = k) : Own (w.alloc (.cells (rc x) 104)) k (.slice (some ⟨k, 0, none⟩) 1 1) [x] := by
  subst h
  exact ⟨rfl, .inr ⟨w.heap.size, 1, _, rfl, Nat.le_refl _, heap_alloc_new w _, Nat.le_refl _, by decide, rfl, rfl⟩⟩
theorem Own.more {w : World} {base : Nat} {v : Value} {L M : List Rw} (h : w.ownsRow base 104 3 v (L.length + M.length) (rcells L ++ rcells M)) : Own w base v (L ++ M) := by
  unfold Own
  rw [List.length_append, rcells_append]
  exact h
theorem Own.free {w : World} {base g m cap : Nat} {L : List Rw} (h : Own w base (.slice (some ⟨g, 0, none⟩) m cap) L) (j : Nat) : w.frozen? ⟨g, j, none⟩ = false := by
  obtain ⟨a, c', e, _⟩ := h.form
  cases e
  exact World.ownsRow.frozenAt h j
theorem Own.at {w : World} {base g m cap i j : Nat} {L : List Rw} (h : Own w base (.slice (some ⟨g, 0, none⟩) m cap) L) (hi : i < L.length) (hj : j < 3) : w.cell? ⟨g, i * 3 + j, none⟩ = some (rcell (rat L i) j) := by
  obtain ⟨a', c', e1, _, _, r, _⟩ := h.form
  cases e1
  obtain ⟨b', o', e2, k⟩ := r.cell i hi
  cases e2
  simpa using k j hj
/-- A store into one cell of number i. -/
theorem Own.set {w : World} {base g m cap i j : Nat} {L : List Rw} {v : Value} {y : Rw} (h : Own w base (.slice (some ⟨g, 0, none⟩) m cap) L) (hi : i < L.length) (hj : j < 3) (hy : ∀ k, k < 3 → rcell y k = if k = j then v else rcell (rat L i) k) :
    Own (w.setCell ⟨g, i * 3 + j, none⟩ v) base (.slice (some ⟨g, 0, none⟩) m cap) (L.set i y) := by
  obtain ⟨a, c', e, _⟩ := h.form
  cases e
  have := (World.ownsRow.stored h (i * 3 + j) v).1
  rw [rcells_set L i j v y hi hj hy] at this
  unfold Own
  rw [List.length_set]
  exact this
theorem grown_below {w w' : World} {base Bb : Nat} {v : Value} {L : List Rw} (h : Own w base v L) (g : w.grownBy w' v.ownBlock) (hB : Bb ≤ base) (hs : Bb ≤ w.heap.size) : Below Bb w w' :=
  ⟨g.os, g.tape, g.output, g.size, fun k hk => g.block k (by omega) (fun e => by have := (World.ownsRow.lt h k e.symm).1; omega)⟩
/-- All cells of number i stored, one after the other. -/
theorem Own.whole {w : World} {base g m cap i : Nat} {L : List Rw} (h : Own w base (.slice (some ⟨g, 0, none⟩) m cap) L) (hi : i < L.length) (y : Rw) :
    Own ((((w.setCell ⟨g, i * 3, none⟩ (.int .i64 y.1)).setCell ⟨g, i * 3 + 1, none⟩ (.int .i64 y.2.1)).setCell ⟨g, i * 3 + 2, none⟩ (.int .i64 y.2.2))) base (.slice (some ⟨g, 0, none⟩) m cap) (L.set i y) := by
  obtain ⟨y0, y1, y2⟩ := y
  have h1 := h.set (i := i) (j := 0) (v := .int .i64 y0) (y := (y0, (rat L i).2.1, (rat L i).2.2)) hi (by omega) (fun k hk => by
    match k, hk with
    | 0, _ => rfl
    | 1, _ => rfl
    | 2, _ => rfl)
  have h2 := h1.set (i := i) (j := 1) (v := .int .i64 y1) (y := (y0, y1, (rat L i).2.2)) (by rw [List.length_set]; exact hi) (by omega) (fun k hk => by
    rw [rat_set hi, if_pos rfl]
    match k, hk with
    | 0, _ => rfl
    | 1, _ => rfl
    | 2, _ => rfl)
  rw [List.set_set] at h2
  have h3 := h2.set (i := i) (j := 2) (v := .int .i64 y2) (y := (y0, y1, y2)) (by rw [List.length_set]; exact hi) (by omega) (fun k hk => by
    rw [rat_set hi, if_pos rfl]
    match k, hk with
    | 0, _ => rfl
    | 1, _ => rfl
    | 2, _ => rfl)
  rw [List.set_set] at h3
  exact h3
theorem infoRw : (Tryz.prog.info? 104).map (fun i => (i.zero, i.size, i.bytes)) = some (some (.agg #[.int .i64 0, .int .i64 0, .int .i64 0]), 3, 24) := by kernel_rfl
theorem row_cell {w : World} {g : Nat} {cur : Array Value} {T : TypeId} {f : Nat × Nat} (hg : w.heap[g]? = some (.cells cur T f)) (j : Nat) : w.cell? ⟨g, j, none⟩ = cur[j]? := by simp [World.cell?, hg]
theorem rcells_split (M : List Rw) (k : Nat) (hk : k ≤ M.length) : rcells M = rcells (M.take k) ++ rcells (M.drop k) ∧ (rcells (M.take k)).length = k * 3 := by
  refine ⟨by rw [← rcells_append, List.take_append_drop], ?_⟩
  rw [rcells_length, List.length_take, Nat.min_eq_left hk]
theorem rcells_take (M : List Rw) (k : Nat) (hk : k ≤ M.length) : rcells (M.take k) = (rcells M).take (k * 3) := by
  obtain ⟨e, l⟩ := rcells_split M k hk
  rw [e, ← l, List.take_left]
theorem rcells_drop (M : List Rw) (k : Nat) (hk : k ≤ M.length) : rcells (M.drop k) = (rcells M).drop (k * 3) := by
  obtain ⟨e, l⟩ := rcells_split M k hk
  rw [e, ← l, List.drop_left]
/-- A row of one's own, looked into. -/
theorem own_row {w : World} {base g m cap : Nat} {M : List Rw} (h : Own w base (.slice (some ⟨g, 0, none⟩) m cap) M) : ∃ cur, base ≤ g ∧ w.heap[g]? = some (.cells cur 104 (0, 0)) ∧ M.length ≤ cap ∧ cap ≤ maxLen ∧ cur.size = cap * 3 ∧ cur.toList.take (M.length * 3) = rcells M ∧ M.length = m := by
  obtain ⟨a', c', e, _⟩ := h.form
  have em : M.length = m := by cases e; rfl
  rcases h.2 with ⟨e', _⟩ | ⟨g', cap', cur, e', hb, hg, hn, hm, hs, ht⟩
  · cases e'
  · cases e'
    exact ⟨cur, hb, hg, hn, hm, hs, ht, rfl⟩
/-- A piece of a row is read. -/
theorem Own.piece {w : World} {base g m cap : Nat} {M : List Rw} (h : Own w base (.slice (some ⟨g, 0, none⟩) m cap) M) (k : Nat) (hk : k ≤ M.length) : ∀ j u, (rcells (M.drop k))[j]? = some u → w.cell? ((⟨g, k * 3, none⟩ : Addr).add j) = some u := by
  intro j u hj
  obtain ⟨cur, _, hg, _, _, hsz, htk, _⟩ := own_row h
  rw [rcells_drop M k hk, List.getElem?_drop, ← htk, List.getElem?_take] at hj
  rw [Go.WideShapes.add_plain, row_cell hg]
  split at hj
  · rw [← Array.getElem?_toList]; exact hj
  · cases hj
theorem Own.front {w : World} {base g m cap : Nat} {M : List Rw} (h : Own w base (.slice (some ⟨g, 0, none⟩) m cap) M) (k : Nat) (hk : k ≤ M.length) : ∀ j u, (rcells (M.take k))[j]? = some u → w.cell? ((⟨g, 0, none⟩ : Addr).add j) = some u := by
  intro j u hj
  obtain ⟨cur, _, hg, _, _, hsz, htk, _⟩ := own_row h
  rw [rcells_take M k hk, List.getElem?_take] at hj
  rw [Go.WideShapes.add_plain, row_cell hg, Nat.zero_add]
  split at hj
  · rw [← htk, List.getElem?_take] at hj
    split at hj
    · rw [← Array.getElem?_toList]; exact hj
    · cases hj
  · cases hj
theorem Own.some_form {w : World} {base : Nat} {v : Value} {M : List Rw} (h : Own w base v M) (hv : v ≠ .slice none 0 0) : ∃ g cap, v = .slice (some ⟨g, 0, none⟩) M.length cap ∧ M.length ≤ cap ∧ cap ≤ 9223372036854775807 ∧ base ≤ g ∧ g < w.heap.size := by
  obtain ⟨a, cap, rfl, hc, hm, hR, hna, hs⟩ := h.form
  cases a with
  | none =>
    have e := hna rfl
    subst e
    have : M.length = 0 := by omega
    rw [this] at hv
    exact absurd rfl hv
  | some x =>
    obtain ⟨g, rfl, h1, h2⟩ := hs x rfl
    exact ⟨g, cap, rfl, hc, hm, h1, h2⟩
/-- What is read is there to be appended. -/
theorem Rd.cells {w : World} {b off : Nat} {L : List Rw} (h : Rd w (some ⟨b, off, none⟩) L) : ∀ j u, (rcells L)[j]? = some u → w.cell? ((⟨b, off, none⟩ : Addr).add j) = some u := by
  intro j u hj
  have hlt : j < L.length * 3 := by rw [← rcells_length]; exact (List.getElem?_eq_some_iff.1 hj).1
  obtain ⟨b', o', e, c⟩ := h.cell (j / 3) (by omega)
  cases e
  have hc := c (j % 3) (by omega)
  have hg := rcells_get L (j / 3) (j % 3) (by omega) (by omega)
  rw [show j / 3 * 3 + j % 3 = j by omega] at hc hg
  rw [hg] at hj
  rw [Go.WideShapes.add_plain, hc]
  exact hj
/-- An append onto a row of one's own, as one step of a region that draws its order; what is not nil stays so. -/
theorem step_append {ops : Array Oper} {o : Oper} {a : Act} {w : World} {K : Act → World → Prop} {Q : Exit → Act → World → Prop} {E : Prop}
    (hg : o.guard = none) (s x : Operand) (hop : o.op = Op.call { callee := Callee.builtin Builtin.append, args := #[s, x], argTypes := #[43, 43] })
    (base : Nat) (v : Value) (M N : List Rw) (hs : a.eval s = v) (hown : Own w base v M) (ad : Addr) (m c : Nat) (hm : N.length = m) (hx : a.eval x = .slice (some ad) m c) (hc : ∀ j u, (rcells N)[j]? = some u → w.cell? (ad.add j) = some u)
    (hl : M.length + m ≤ 1000) (hb : base ≤ w.heap.size)
    (hK : ∀ v' w', Own w' base v' (M ++ N) → w.grownBy w' v.ownBlock → (v' = .slice none 0 0 ↔ v = .slice none 0 0 ∧ m = 0) → K (a.put o.dst v') w') :
    if Region.wanted o (yielded ops a.tmps) = true then Oper.wp Tryz.prog o a w K Q else E := by
  have hw : Region.wanted o (yielded ops a.tmps) = true := by simp [Region.wanted, hg]
  obtain ⟨i0, hi0, hz0, hz1, hz2⟩ := info_parts infoRw
  rw [if_pos hw]
  obtain ⟨v', w', hrun, r1, r2, r3⟩ := run_append_own (P := Tryz.prog) w base 43 o.type 104 i0 (.agg #[.int .i64 0, .int .i64 0, .int .i64 0]) 3 24 Tryz.underlying43 hi0 hz0 hz1 hz2 rfl (by decide) v M.length (rcells M) hown ad m c (rcells N) (by rw [rcells_length, hm]) hc (rcells_one _) (by unfold maxLen; omega) (by omega) hb
  unfold Oper.wp
  simp [execOp, hop, resolve, invoke, builtin, hs, hx, hrun, Result.andThen]
  exact hK v' w' (Own.more (by rw [hm]; exact r1)) r2 r3
/-- An append of nil onto a row of one's own, as one step of a region that draws its order. -/
theorem step_append_none {ops : Array Oper} {o : Oper} {a : Act} {w : World} {K : Act → World → Prop} {Q : Exit → Act → World → Prop} {E : Prop}
    (hg : o.guard = none) (s x : Operand) (hop : o.op = Op.call { callee := Callee.builtin Builtin.append, args := #[s, x], argTypes := #[43, 43] })
    (base : Nat) (v : Value) (M : List Rw) (hs : a.eval s = v) (hown : Own w base v M) (hx : a.eval x = .slice none 0 0)
    (hK : K (a.put o.dst v) w) : if Region.wanted o (yielded ops a.tmps) = true then Oper.wp Tryz.prog o a w K Q else E := by
  have hw : Region.wanted o (yielded ops a.tmps) = true := by simp [Region.wanted, hg]
  obtain ⟨i0, hi0, hz0, hz1, hz2⟩ := info_parts infoRw
  rw [if_pos hw]
  have hrun := run_append_owned_none (P := Tryz.prog) (w := w) base 43 o.type 104 i0 3 Tryz.underlying43 hi0 v M.length (rcells M) hown
  unfold Oper.wp
  simp [execOp, hop, resolve, invoke, builtin, hs, hx, hrun, Result.andThen]
  exact hK
theorem grown_cell1 {w w' : World} {r : Option Nat} (k : w.grownBy w' r) {b o : Nat} {v : Value} (h : w.cell? ⟨b, o, none⟩ = some v) (hr : some b ≠ r) : w'.cell? ⟨b, o, none⟩ = some v := by
  rw [World.cell?_of_block (w := w) (k.block b (cell_block h) hr)]
  exact h
/-- The block that a slice owns; of none, one that is not there. -/
def ob (w : World) (v : Value) : Nat := v.ownBlock.getD w.heap.size
theorem Own.lo {w w' : World} {b b' : Nat} {u v : Value} {M L : List Rw} (hu : Own w b u M) (hv : Own w b' v L) (Y : Only (ob w v) w w') (hlt : ∀ g, u.ownBlock = some g → g < b') : Own w' b u M := by
  refine hu.only Y (.inr fun g hg => ?_)
  have h1 := hlt g hg
  have h2 := (World.ownsRow.lt hu g hg).2
  unfold ob
  cases hvb : v.ownBlock with
  | none => simp; omega
  | some x => have := (World.ownsRow.lt hv x hvb).1; simp; omega
theorem Own.hi {w w' : World} {b b' : Nat} {u v : Value} {M L : List Rw} (hu : Own w b u M) (hv : Own w b' v L) (Y : Only (ob w v) w w') (hlt : ∀ g, v.ownBlock = some g → g < b) : Own w' b u M := by
  refine hu.only Y (.inr fun g hg => ?_)
  have h2 := World.ownsRow.lt hu g hg
  unfold ob
  cases hvb : v.ownBlock with
  | none => simp; omega
  | some x => have := hlt x hvb; simp; omega
theorem Own.blk {w : World} {b : Nat} {v : Value} {L : List Rw} (hv : Own w b v L) {X : Nat} (hX : w.heap.size ≤ X) : ∀ g, v.ownBlock = some g → g < X := fun g hg => by
  have := (World.ownsRow.lt hv g hg).2; omega
theorem ob_below {W w w' : World} {b B : Nat} {v : Value} {L : List Rw} (k : Below B W w) (hv : Own w b v L) (Y : Only (ob w v) w w') (hb : B ≤ b) (hs : B ≤ w.heap.size) : Below B W w' := by
  refine k.trans (Y.below ?_ hs)
  unfold ob
  cases hvb : v.ownBlock with
  | none => simpa using hs
  | some x => have := (World.ownsRow.lt hv x hvb).1; simp; omega
theorem rat_map (m : Nat) (f : Nat → Rw) (i : Nat) (hi : i < m) : rat ((List.range m).map f) i = f i := by
  unfold rat
  rw [List.getD_eq_getElem?_getD, List.getElem?_map, List.getElem?_range hi]
  rfl
theorem fresh (w : World) (x : Rw) (T : TypeId) : ∀ j u, (rcells [x])[j]? = some u → (w.alloc (.cells (rc x) T)).cell? ((⟨w.heap.size, 0, none⟩ : Addr).add j) = some u := by
  intro j u hj
  match j, hj with
  | 0, hj => simp [rcells] at hj; subst hj; simp [Addr.add]
  | 1, hj => simp [rcells] at hj; subst hj; simp [Addr.add]
  | 2, hj => simp [rcells] at hj; subst hj; simp [Addr.add]
  | j + 3, hj => simp [rcells] at hj
/-- The slice at a, of capacity cap, that came in reads as L; its texts are no longer than a text may be. -/
structure In (w : World) (a : Option Addr) (cap : Nat) (L : List Rw) : Prop where
  rd : Rd w a L
  na : a = none → cap = 0
  le : L.length ≤ cap
  cap : cap ≤ 9223372036854775807
/-- The cell of a slice, looked into. -/
theorem open_cells {H : Type} {P : Program} {enc : TypeId × Value → H} {w : World} {base : Nat} {spare : Nat → Bool} {held : Bool} {v : Value} {fuel : Nat} {z : DataW H × List MemPlace} {t e : TypeId} {f0 f1 f2 : Field}
    (ht : P.underlying t = some (.slice e)) (he : P.underlying e = some (.struct #[f0, f1, f2])) (ce : P.cellsOf e = 3) (o0 : f0.offset = 0) (o1 : f1.offset = 1) (o2 : f2.offset = 2)
    (c0 : P.cellsOf f0.type = 1) (c1 : P.cellsOf f1.type = 1) (c2 : P.cellsOf f2.type = 1)
    (t0 : P.underlying f0.type = some (.int .i64)) (t1 : P.underlying f1.type = some (.int .i64)) (t2 : P.underlying f2.type = some (.int .i64))
    (hf : DataW.trod enc P w base spare held fuel t [v] = some z) : ∃ (a : Option Addr) (cap : Nat) (L : List Rw), v = .slice a L.length cap ∧ In w a cap L := by
  rcases Go.Deep.open_slice ht hf with ⟨hcs, _⟩ | ⟨x, len, cap, m, n, D, Pl, hcs, _, hl, hc, hm, _, hx⟩
  · simp at hcs
    subst hcs
    exact ⟨none, 0, [], rfl, Rd.nil _ _, fun _ => rfl, Nat.zero_le _, by decide⟩
  · simp at hcs
    subst hcs
    have hlm : len ≤ m := by rw [hm]; split <;> omega
    have each : ∀ i, i < len → ∃ y : Rw, (∀ j, j < 3 → w.cell? (x.add (i * 3 + j)) = some (rcell y j)) ∧ True := by
      intro i hi
      obtain ⟨cs', h1, h2⟩ := hx i (by omega)
      rw [ce] at h1
      obtain ⟨_, hlen, hcell⟩ := World.cells?_some h1
      obtain ⟨xs, k, hk, hxy, _, hxl, hf'⟩ := DataW.trod_struct he h2
      match xs, hxl, cs', hlen with
      | [y0, y1, y2], _, [v0, v1, v2], _ =>
        have g0 := hf' 0 f0 rfl
        have g1 := hf' 1 f1 rfl
        have g2 := hf' 2 f2 rfl
        simp [o0, o1, o2, c0, c1, c2] at g0 g1 g2
        obtain ⟨q0, eq0, _, _⟩ := DataW.trod_int t0 g0
        obtain ⟨q1, eq1, _, _⟩ := DataW.trod_int t1 g1
        obtain ⟨q2, eq2, _, _⟩ := DataW.trod_int t2 g2
        simp at eq0 eq1 eq2
        subst eq0 eq1 eq2
        refine ⟨(q0, q1, q2), fun j hj => ?_, trivial⟩
        have e := hcell j hj
        rw [Go.Deep.add_add] at e
        rw [e]
        match j, hj with
        | 0, _ => rfl
        | 1, _ => rfl
        | 2, _ => rfl
    haveI : Inhabited Rw := ⟨(0, 0, 0)⟩
    obtain ⟨f, hf'⟩ := Go.Deep.choose_lt each
    refine ⟨some x, cap, (List.range len).map f, by simp, ⟨fun i hi => ?_⟩, (fun e => by cases e), by simpa using hl, hc⟩
    · have hi' : i < len := by simpa using hi
      have z0 := (hf' 0 (by omega)).1 0 (by omega)
      obtain ⟨b, off, spot⟩ := x
      have hspot : spot = none := by simpa [Addr.add] using World.cell?_spot z0
      subst hspot
      refine ⟨b, off, rfl, fun j hj => ?_⟩
      rw [rat_map _ _ _ hi', ← Go.WideShapes.add_plain]
      exact (hf' i hi').1 j hj
theorem open_rows {H : Type} {P : Program} {enc : TypeId × Value → H} {w : World} {r : Reach} {b0 base : Nat} {spare : Nat → Bool} {held : Bool} {v : Value} {d : DataW H} {p : List MemPlace} {t e : TypeId} {f0 f1 f2 : Field}
    (ht : P.underlying t = some (.slice e)) (he : P.underlying e = some (.struct #[f0, f1, f2])) (ce : P.cellsOf e = 3) (o0 : f0.offset = 0) (o1 : f1.offset = 1) (o2 : f2.offset = 2)
    (c0 : P.cellsOf f0.type = 1) (c1 : P.cellsOf f1.type = 1) (c2 : P.cellsOf f2.type = 1)
    (t0 : P.underlying f0.type = some (.int .i64)) (t1 : P.underlying f1.type = some (.int .i64)) (t2 : P.underlying f2.type = some (.int .i64))
    (hv : Value.okWide P w r b0 t v) (h : DataW.Trod enc P w base spare held t v d p) : ∃ (a : Option Addr) (cap : Nat) (L : List Rw), v = .slice a L.length cap ∧ In w a cap L := by
  obtain ⟨a, len, cap, rfl⟩ := okWide_slice ht hv
  obtain ⟨fuel, hf⟩ := h
  have hf' : DataW.trod enc P w base spare held fuel t [.slice a len cap] = some (d, p) := by simpa [Value.cells] using hf
  exact open_cells ht he ce o0 o1 o2 c0 c1 c2 t0 t1 t2 hf'
theorem arrayN {cs : Array Value} (h : cs.size = 3) : ∃ a0 a1 a2, cs = #[a0, a1, a2] := by
  obtain ⟨l⟩ := cs
  match l, h with
  | [a0, a1, a2], _ => exact ⟨a0, a1, a2, rfl⟩
/-- One that came in by value. -/
theorem open_one {H : Type} {P : Program} {enc : TypeId × Value → H} {w : World} {r : Reach} {b0 base : Nat} {spare : Nat → Bool} {held : Bool} {v : Value} {d : DataW H} {p : List MemPlace} {e : TypeId} {f0 f1 f2 : Field}
    (he : P.underlying e = some (.struct #[f0, f1, f2])) (ce : P.cellsOf e = 3) (o0 : f0.offset = 0) (o1 : f1.offset = 1) (o2 : f2.offset = 2)
    (c0 : P.cellsOf f0.type = 1) (c1 : P.cellsOf f1.type = 1) (c2 : P.cellsOf f2.type = 1)
    (t0 : P.underlying f0.type = some (.int .i64)) (t1 : P.underlying f1.type = some (.int .i64)) (t2 : P.underlying f2.type = some (.int .i64))
    (hv : Value.okWide P w r b0 e v) (h : DataW.Trod enc P w base spare held e v d p) : ∃ y : Rw, v = rv y ∧ True := by
  obtain ⟨cs, rfl, hsz⟩ := okWide_struct he hv
  obtain ⟨v0, v1, v2, rfl⟩ := arrayN (hsz.trans ce)
  obtain ⟨fuel, hf⟩ := h
  obtain ⟨xs, k, hk, hxy, _, hxl, hf'⟩ := DataW.trod_struct he hf
  match xs, hxl with
  | [y0, y1, y2], _ =>
    have g0 := hf' 0 f0 rfl
    have g1 := hf' 1 f1 rfl
    have g2 := hf' 2 f2 rfl
    simp [o0, o1, o2, c0, c1, c2, Value.cells] at g0 g1 g2
    obtain ⟨q0, eq0, _, _⟩ := DataW.trod_int t0 g0
    obtain ⟨q1, eq1, _, _⟩ := DataW.trod_int t1 g1
    obtain ⟨q2, eq2, _, _⟩ := DataW.trod_int t2 g2
    simp at eq0 eq1 eq2
    subst eq0 eq1 eq2
    exact ⟨(q0, q1, q2), rfl, trivial⟩
end Go.Proofs.YtceddedlfdgbhaaGreatDoor.Bu
namespace Go.Proofs.YtceddedlfdgbhaaGreatDoor.Bu
open Go.ChangeShapes Go.WideShapes Go.ChangeAt Go.RowKit
set_option linter.unusedVariables false
/-- A piece of a row written over. -/
def over (l : List Value) (o : Nat) (cs : List Value) : List Value := l.take o ++ cs ++ l.drop (o + cs.length)
theorem over_length (l cs : List Value) (o : Nat) (h : o + cs.length ≤ l.length) : (over l o cs).length = l.length := by
  unfold over
  simp
  omega
theorem over_get (l cs : List Value) (o : Nat) (h : o + cs.length ≤ l.length) (j : Nat) : (over l o cs)[j]? = if o ≤ j ∧ j < o + cs.length then cs[j - o]? else l[j]? := by
  unfold over
  by_cases h1 : j < o
  · rw [if_neg (by omega), List.append_assoc, List.getElem?_append_left (by simp; omega), List.getElem?_take, if_pos h1]
  · by_cases h2 : j < o + cs.length
    · rw [if_pos ⟨by omega, h2⟩, List.append_assoc, List.getElem?_append_right (by simp; omega), List.length_take, Nat.min_eq_left (by omega), List.getElem?_append_left (by omega)]
    · rw [if_neg (by omega), List.getElem?_append_right (by simp; omega), List.getElem?_drop]
      congr 1
      simp
      omega
/-- What copy does to a row of the call's own, the elements 3 cells each. -/
theorem run_copy_rows {w : World} {g : Nat} {cur : Array Value} (hg : w.heap[g]? = some (.cells cur 104 (0, 0))) (ty : TypeId) (o dl dc : Nat) (x : Addr) (sl sc n : Nat) (cs : List Value) (hn : sl.min dl = n) (hlen : cs.length = n * 3)
    (hsrc : ∀ j u, cs[j]? = some u → w.cell? (x.add j) = some u) (h1 : ∀ u ∈ cs, u.oneCell' = true) (hfit : o + n * 3 ≤ cur.size) :
    (Builtin.copy_ #[43, 43] ty #[.slice (some ⟨g, o, none⟩) dl dc, .slice (some x) sl sc]).run Tryz.prog w = .ok (goInt n) (w.setRow g (over cur.toList o cs).toArray) := by
  obtain ⟨i0, hi, hz0, hz1, hz2⟩ := info_parts infoRw
  have hl := run_firstCells_some (P := Tryz.prog) w 3 n x sl sc cs hlen hsrc
  have hst := run_storeCells_at Tryz.prog g o 104 cs 0 cur w hg (by rw [hlen]; omega) h1
  simp only [Nat.add_zero] at hst
  simp [Builtin.copy_, run_underlying Tryz.underlying43, Builtin.lenOf, sizeOf, typeInfo, hi, hz1, hn, hl, hst, over]
theorem take_eq_of {l m : List Value} {n : Nat} (hm : m.length = n) (h : ∀ j, j < n → l[j]? = m[j]?) : l.take n = m := by
  apply List.ext_getElem?
  intro j
  rw [List.getElem?_take]
  by_cases hj : j < n
  · rw [if_pos hj, h j hj]
  · rw [if_neg hj, List.getElem?_eq_none (by omega)]
/-- The row with one more at place i. -/
theorem ins_row {l : List Value} {M : List Rw} {i : Nat} {x : Rw} (hi : i ≤ M.length) (h1 : ∀ j, j < i * 3 → l[j]? = (rcells M)[j]?) (h2 : ∀ j, j < 3 → l[i * 3 + j]? = (rcells [x])[j]?) (h3 : ∀ j, j < (M.length - i) * 3 → l[(i + 1) * 3 + j]? = (rcells M)[i * 3 + j]?) :
    l.take ((M.length + 1) * 3) = rcells (M.take i ++ x :: M.drop i) := by
  refine take_eq_of (by rw [rcells_length]; simp; omega) (fun j hj => ?_)
  rw [rcells_append, show x :: M.drop i = [x] ++ M.drop i from rfl, rcells_append]
  by_cases c1 : j < i * 3
  · rw [h1 j c1, List.getElem?_append_left (by rw [rcells_length, List.length_take]; omega), rcells_take M i hi, List.getElem?_take, if_pos c1]
  · rw [List.getElem?_append_right (by rw [rcells_length, List.length_take]; omega), rcells_length, List.length_take, Nat.min_eq_left hi]
    by_cases c2 : j < i * 3 + 3
    · have := h2 (j - i * 3) (by omega)
      rw [show i * 3 + (j - i * 3) = j by omega] at this
      rw [this, List.getElem?_append_left (by rw [rcells_length]; simp; omega)]
    · have := h3 (j - i * 3 - 3) (by omega)
      rw [show (i + 1) * 3 + (j - i * 3 - 3) = j by omega] at this
      rw [this, List.getElem?_append_right (by rw [rcells_length]; simp; omega), rcells_length, rcells_drop M i hi, List.getElem?_drop]
      congr 1
end Go.Proofs.YtceddedlfdgbhaaGreatDoor.Bu
