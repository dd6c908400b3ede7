/-
  A Deny (two names and a row of numbers) that came in, and what the laws do with one: szDeny, toDeny, eqDeny.
  Members in plain words, as books are: by Id, which is Stronger, what is found under an Id, what two lists come to. (Written out of BokP by wip/mkMem.py.) No program in sight.
  Members as rows; Stronger of the specification.
  One Member more put into what two lists come to. (Written out of BokQ by wip/mkMem.py.)
  l12Merge of the specification. (Written out of BokJ by wip/mkMem.py.)
-/
import Derived.Test.YtceddedlfdgbhaaGreatDoorBun7
import Derived.Deep.Strs
import Derived.WalkKit
import Derived.Test.YtceddedlfdgbhaaGreatDoorMem2M
import Derived.Test.YtceddedlfdgbhaaGreatDoorQuiet
import Derived.Handy
import Derived.Deep.RegionHeld3
import Derived.Laws.AppendOwnNone
import Derived.Deep.RegionWith
import Derived.Deep.Cut
import Derived.Deep.CutRange
namespace Go.Proofs.YtceddedlfdgbhaaGreatDoor.Zn
open Go.ChangeShapes Go.WideShapes Go.ChangeAt Go.RowKit
set_option linter.unusedVariables false
open Go.Proofs.YtceddedlfdgbhaaGreatDoor.Iv (iat iat_at iat_take szInt64S_any toInt64S_any eqInt64S_any)
open Go.Proofs.YtceddedlfdgbhaaGreatDoor.Nm (hidIt)
theorem open_ints_in {H : Type} {P : Program} {enc : TypeId × Value → H} {w : World} {base : Nat} {spare : Nat → Bool} {held : Bool} {t e : TypeId} {fuel : Nat} {v : Value} {x : DataW H × List MemPlace}
    (ht : P.underlying t = some (.slice e)) (he : P.underlying e = some (.int .i64)) (hc : P.cellsOf e = 1) (h : DataW.trod enc P w base spare held fuel t [v] = some x) :
    ∃ (a : Option Addr) (cap : Nat) (L : List Int), v = .slice a L.length cap ∧ Iv.In w a cap L := by
  rcases open_ints ht he hc h with ⟨hcs, _⟩ | ⟨a, len, cap, zs, hcs, _, hl, hm, hz, _, hcell, _⟩
  · simp at hcs
    subst hcs
    exact ⟨none, 0, [], rfl, Iv.Rd.nil _ _, Nat.zero_le _, by decide⟩
  · simp at hcs
    subst hcs
    have hlz : len ≤ zs.length := by rw [hz]; split <;> omega
    have hll : (zs.take len).length = len := by rw [List.length_take]; omega
    refine ⟨some a, cap, zs.take len, by rw [hll], ⟨fun i hi => ?_⟩, by rw [hll]; exact hl, hm⟩
    rw [hll] at hi
    have z0 := hcell 0 (by omega)
    have zi := hcell i (by omega)
    obtain ⟨b, off, spot⟩ := a
    have hspot : spot = none := by simpa [Addr.add] using World.cell?_spot z0
    subst hspot
    refine ⟨b, off, rfl, ?_⟩
    rw [iat_take hi, ← Go.WideShapes.add_plain]
    exact zi
theorem open_deny {H : Type} {P : Program} {enc : TypeId × Value → H} {w : World} {r : Reach} {b0 base : Nat} {spare : Nat → Bool} {held : Bool} {v : Value} {d : DataW H} {p : List MemPlace} {e i : TypeId} {f0 f1 f2 : Field}
    (he : P.underlying e = some (.struct #[f0, f1, f2])) (ce : P.cellsOf e = 3) (o0 : f0.offset = 0) (o1 : f1.offset = 1) (o2 : f2.offset = 2)
    (c0 : P.cellsOf f0.type = 1) (c1 : P.cellsOf f1.type = 1) (c2 : P.cellsOf f2.type = 1)
    (t0 : P.underlying f0.type = some .string) (t1 : P.underlying f1.type = some .string) (t2 : P.underlying f2.type = some (.slice i)) (ti : P.underlying i = some (.int .i64)) (ci : P.cellsOf i = 1)
    (hv : Value.okWide P w r b0 e v) (h : DataW.Trod enc P w base spare held e v d p) : ∃ (s u : ByteArray) (a : Option Addr) (cap : Nat) (L : List Int), v = .agg #[.string s, .string u, .slice a L.length cap] ∧ s.size ≤ 9223372036854775807 ∧ u.size ≤ 9223372036854775807 ∧ Iv.In w a cap L := by
  obtain ⟨cs, rfl, hsz⟩ := okWide_struct he hv
  obtain ⟨v0, v1, v2, rfl⟩ := Go.Joins.array3 (hsz.trans ce)
  obtain ⟨fuel, hf⟩ := h
  obtain ⟨y0, y1, y2, n, _, _, g0, g1, g2⟩ := Go.Deep.trod_struct3 he hf
  simp [o0, o1, o2, c0, c1, c2, Value.cells] at g0 g1 g2
  obtain ⟨s, es, _, hs⟩ := DataW.trod_string t0 g0
  obtain ⟨u, eu, _, hu⟩ := DataW.trod_string t1 g1
  obtain ⟨a, cap, L, ea, hI⟩ := open_ints_in t2 ti ci g2
  simp at es eu
  subst es eu ea
  exact ⟨s, u, a, cap, L, rfl, hs, hu, hI⟩
/-- What lies in the three cells of a Deny. -/
structure Bx (w : World) (g : Nat) (s u : ByteArray) (v : Value) : Prop where
  c0 : w.cell? ⟨g, 0, none⟩ = some (.string s)
  c1 : w.cell? ⟨g, 1, none⟩ = some (.string u)
  c2 : w.cell? ⟨g, 2, none⟩ = some v
theorem Bx.kept {w w' : World} {g : Nat} {s u : ByteArray} {v : Value} (h : Bx w g s u v) (k : Below w.heap.size w w') : Bx w' g s u v :=
  ⟨by rw [k.cell (by simpa using Nm.cell_block h.c0)]; exact h.c0, by rw [k.cell (by simpa using Nm.cell_block h.c1)]; exact h.c1, by rw [k.cell (by simpa using Nm.cell_block h.c2)]; exact h.c2⟩
theorem Bx.drew {w : World} {g : Nat} {s u : ByteArray} {v : Value} (h : Bx w g s u v) : Bx w.drew g s u v := ⟨h.c0, h.c1, h.c2⟩
theorem below_box {W w' : World} {o : Obj} (k : Below (W.alloc o).heap.size (W.alloc o) w') : Below W.heap.size W w' :=
  ((Below.refl _ _).alloc (Nat.le_refl _) o).trans (k.mono (by simp))
theorem alloc_at {W : World} {b j : Nat} {o : Array Value} {t : TypeId} {v : Value} (hb : b = W.heap.size) (hv : o[j]? = some v) : (W.alloc (.cells o t)).cell? ⟨b, j, none⟩ = some v ∧ (W.alloc (.cells o t)).frozen? ⟨b, j, none⟩ = false := by
  subst hb
  exact ⟨by simp [hv], by simp⟩
theorem alloc_under {W : World} {b j : Nat} {o : Obj} {v : Value} (hb : b < W.heap.size) (h : W.cell? ⟨b, j, none⟩ = some v ∧ W.frozen? ⟨b, j, none⟩ = false) : (W.alloc o).cell? ⟨b, j, none⟩ = some v ∧ (W.alloc o).frozen? ⟨b, j, none⟩ = false :=
  have k := (Below.refl W.heap.size W).alloc (Nat.le_refl _) o
  ⟨(k.cell (p := ⟨b, j, none⟩) hb).trans h.1, (k.frozen (p := ⟨b, j, none⟩) hb).trans h.2⟩
theorem kept_at {W w' : World} {b j : Nat} {v : Value} (k : Below W.heap.size W w') (hb : b < W.heap.size) (h : W.cell? ⟨b, j, none⟩ = some v ∧ W.frozen? ⟨b, j, none⟩ = false) : w'.cell? ⟨b, j, none⟩ = some v ∧ w'.frozen? ⟨b, j, none⟩ = false :=
  ⟨(k.cell (p := ⟨b, j, none⟩) hb).trans h.1, (k.frozen (p := ⟨b, j, none⟩) hb).trans h.2⟩
/-- A Deny as a value. -/
abbrev dv (s u : ByteArray) (a : Option Addr) (n cap : Nat) : Value := .agg #[.string s, .string u, .slice a n cap]
end Go.Proofs.YtceddedlfdgbhaaGreatDoor.Zn
namespace Go.Proofs.YtceddedlfdgbhaaGreatDoor.Mk
set_option linter.unusedVariables false
abbrev Bytes := List UInt8
structure En where
  key : Int
  value : Bytes
  time : Int
  node : Int
  gone : Bool
  deriving DecidableEq
def okE (e : En) : Bool := decide (0 ≤ e.key) && decide (e.key ≤ 7) && decide (0 ≤ e.time) && decide (e.time ≤ 1000000) && decide (0 ≤ e.node) && decide (e.node ≤ 2)
def newB (a b : En) : Bool :=
  if a.time ≠ b.time then decide (b.time < a.time)
  else if a.node ≠ b.node then decide (b.node < a.node)
  else if a.gone ≠ b.gone then a.gone
  else decide (b.value < a.value)
theorem newB_1 {a b : En} (h : a.time ≠ b.time) : newB a b = decide (b.time < a.time) := by unfold newB; rw [if_pos h]
theorem newB_2 {a b : En} (h : a.time = b.time) (k : a.node ≠ b.node) : newB a b = decide (b.node < a.node) := by unfold newB; rw [if_neg (by simp [h]), if_pos k]
theorem newB_3 {a b : En} (h : a.time = b.time) (k : a.node = b.node) (g : a.gone ≠ b.gone) : newB a b = a.gone := by unfold newB; rw [if_neg (by simp [h]), if_neg (by simp [k]), if_pos g]
theorem newB_4 {a b : En} (h : a.time = b.time) (k : a.node = b.node) (g : a.gone = b.gone) : newB a b = decide (b.value < a.value) := by unfold newB; rw [if_neg (by simp [h]), if_neg (by simp [k]), if_neg (by simp [g])]
theorem lt_total {a b : Bytes} (h : ¬ a < b) (k : ¬ b < a) : a = b := List.le_antisymm k h
theorem new_irrefl (a : En) : newB a a = false := by
  unfold newB
  simp [List.lt_irrefl]
theorem new_asymm {a b : En} (h : newB a b = true) : newB b a = false := by
  unfold newB at h ⊢
  by_cases h1 : a.time = b.time
  · rw [if_neg (by simp [h1])] at h
    rw [if_neg (by simp [h1])]
    by_cases h2 : a.node = b.node
    · rw [if_neg (by simp [h2])] at h
      rw [if_neg (by simp [h2])]
      by_cases h3 : a.gone = b.gone
      · rw [if_neg (by simp [h3])] at h
        rw [if_neg (by simp [h3])]
        exact decide_eq_false (fun k => List.lt_irrefl _ (List.lt_trans k (of_decide_eq_true h)))
      · rw [if_pos h3] at h
        rw [if_pos (fun e => h3 e.symm)]
        cases hb : b.gone
        · rfl
        · rw [h, hb] at h3; exact absurd rfl h3
    · rw [if_pos h2] at h
      rw [if_pos (fun e => h2 e.symm)]
      have := of_decide_eq_true h
      exact decide_eq_false (by omega)
  · rw [if_pos h1] at h
    rw [if_pos (fun e => h1 e.symm)]
    have := of_decide_eq_true h
    exact decide_eq_false (by omega)
/-- Of two Entries of which none is Newer all is alike but the Key. -/
theorem new_total {a b : En} (h : newB a b = false) (k : newB b a = false) : a.time = b.time ∧ a.node = b.node ∧ a.gone = b.gone ∧ a.value = b.value := by
  unfold newB at h k
  by_cases h1 : a.time = b.time
  · rw [if_neg (by simp [h1])] at h
    rw [if_neg (by simp [h1])] at k
    by_cases h2 : a.node = b.node
    · rw [if_neg (by simp [h2])] at h
      rw [if_neg (by simp [h2])] at k
      by_cases h3 : a.gone = b.gone
      · rw [if_neg (by simp [h3])] at h
        rw [if_neg (by simp [h3])] at k
        exact ⟨h1, h2, h3, lt_total (of_decide_eq_false k) (of_decide_eq_false h)⟩
      · rw [if_pos h3] at h
        rw [if_pos (fun e => h3 e.symm)] at k
        exact absurd (h.trans k.symm) h3
    · rw [if_pos h2] at h
      rw [if_pos (fun e => h2 e.symm)] at k
      have h' := of_decide_eq_false h
      have k' := of_decide_eq_false k
      exact absurd (by omega) h2
  · rw [if_pos h1] at h
    rw [if_pos (fun e => h1 e.symm)] at k
    have h' := of_decide_eq_false h
    have k' := of_decide_eq_false k
    exact absurd (by omega) h1
theorem new_trans {a b c : En} (h : newB a b = true) (k : newB b c = true) : newB a c = true := by
  unfold newB at h k ⊢
  by_cases t1 : a.time = b.time
  · rw [if_neg (by simp [t1])] at h
    by_cases t2 : b.time = c.time
    · rw [if_neg (by simp [t2])] at k
      rw [if_neg (by simp [t1, t2])]
      by_cases n1 : a.node = b.node
      · rw [if_neg (by simp [n1])] at h
        by_cases n2 : b.node = c.node
        · rw [if_neg (by simp [n2])] at k
          rw [if_neg (by simp [n1, n2])]
          by_cases g1 : a.gone = b.gone
          · rw [if_neg (by simp [g1])] at h
            by_cases g2 : b.gone = c.gone
            · rw [if_neg (by simp [g2])] at k
              rw [if_neg (by simp [g1, g2])]
              exact decide_eq_true (List.lt_trans (of_decide_eq_true k) (of_decide_eq_true h))
            · rw [if_pos g2] at k
              rw [if_pos (by rw [g1]; exact g2), g1]
              exact k
          · rw [if_pos g1] at h
            by_cases g2 : b.gone = c.gone
            · rw [if_pos (by rw [← g2]; exact g1)]
              exact h
            · rw [if_pos g2] at k
              exact absurd (h.trans k.symm) g1
        · rw [if_pos n2] at k
          rw [if_pos (by rw [n1]; exact n2), n1]
          exact k
      · rw [if_pos n1] at h
        have h' := of_decide_eq_true h
        by_cases n2 : b.node = c.node
        · rw [if_pos (by rw [← n2]; exact n1), ← n2]
          exact h
        · rw [if_pos n2] at k
          have k' := of_decide_eq_true k
          rw [if_pos (by omega)]
          exact decide_eq_true (by omega)
    · rw [if_pos t2] at k
      rw [if_pos (by rw [t1]; exact t2), t1]
      exact k
  · rw [if_pos t1] at h
    have h' := of_decide_eq_true h
    by_cases t2 : b.time = c.time
    · rw [if_pos (by rw [← t2]; exact t1), ← t2]
      exact h
    · rw [if_pos t2] at k
      have k' := of_decide_eq_true k
      rw [if_pos (by omega)]
      exact decide_eq_true (by omega)
theorem en_ext {a b : En} (hk : a.key = b.key) (h : newB a b = false) (k : newB b a = false) : a = b := by
  obtain ⟨h1, h2, h3, h4⟩ := new_total h k
  cases a
  cases b
  simp_all
/-- Keys that rise. -/
def Ris (L : List En) : Prop := L.Pairwise fun a b => a.key < b.key
def look (L : List En) (k : Int) : Option En := L.find? fun e => decide (e.key = k)
theorem look_nil (k : Int) : look [] k = none := rfl
theorem look_cons (a : En) (L : List En) (k : Int) : look (a :: L) k = if a.key = k then some a else look L k := by
  unfold look
  rw [List.find?_cons]
  by_cases h : a.key = k
  · rw [if_pos h]; simp [h]
  · rw [if_neg h]; simp [h]
theorem look_some {L : List En} {k : Int} {e : En} (h : look L k = some e) : e ∈ L ∧ e.key = k := by
  unfold look at h
  exact ⟨List.mem_of_find?_eq_some h, by simpa using List.find?_some h⟩
theorem look_none {L : List En} {k : Int} (h : look L k = none) : ∀ e ∈ L, e.key ≠ k := by
  unfold look at h
  intro e he
  have := List.find?_eq_none.1 h e he
  simpa using this
theorem look_none_of {L : List En} {k : Int} (h : ∀ e ∈ L, e.key ≠ k) : look L k = none := by
  unfold look
  exact List.find?_eq_none.2 (fun e he => by simpa using h e he)
theorem ris_cons {a : En} {L : List En} : Ris (a :: L) ↔ (∀ b ∈ L, a.key < b.key) ∧ Ris L := List.pairwise_cons
theorem look_mem {L : List En} (h : Ris L) {e : En} (he : e ∈ L) : look L e.key = some e := by
  induction L with
  | nil => cases he
  | cons a L ih =>
    obtain ⟨h1, h2⟩ := ris_cons.1 h
    rw [look_cons]
    rcases List.mem_cons.1 he with rfl | he
    · rw [if_pos rfl]
    · rw [if_neg (fun e' => Int.lt_irrefl _ (by have := h1 e he; rw [e'] at this; exact this))]
      exact ih h2 he
/-- Two books in which the same is found are one. -/
theorem ris_ext {L M : List En} (hL : Ris L) (hM : Ris M) (h : ∀ k, look L k = look M k) : L = M := by
  induction L generalizing M with
  | nil =>
    cases M with
    | nil => rfl
    | cons b M => have := h b.key; rw [look_nil, look_cons, if_pos rfl] at this; cases this
  | cons a L ih =>
    cases M with
    | nil => have := h a.key; rw [look_nil, look_cons, if_pos rfl] at this; cases this
    | cons b M =>
      obtain ⟨a1, a2⟩ := ris_cons.1 hL
      obtain ⟨b1, b2⟩ := ris_cons.1 hM
      have ea := h a.key
      have eb := h b.key
      rw [look_cons, if_pos rfl] at ea
      rw [look_cons b, if_pos rfl] at eb
      have hab : a = b := by
        obtain ⟨ma, _⟩ := look_some ea.symm
        obtain ⟨mb, _⟩ := look_some eb
        rcases List.mem_cons.1 ma with e | ma
        · exact e
        · rcases List.mem_cons.1 mb with e | mb
          · exact e.symm
          · exact absurd (Int.lt_trans (a1 b mb) (b1 a ma)) (Int.lt_irrefl _)
      subst hab
      rw [ih a2 b2 (fun k => ?_)]
      have hk := h k
      rw [look_cons, look_cons] at hk
      by_cases e : a.key = k
      · rw [look_none_of (fun x hx => by intro e'; have := a1 x hx; rw [e', e] at this; exact Int.lt_irrefl _ this), look_none_of (fun x hx => by intro e'; have := b1 x hx; rw [e', e] at this; exact Int.lt_irrefl _ this)]
      · rw [if_neg e, if_neg e] at hk
        exact hk
/-- Of two that may be there the one than which the other is not Newer. -/
def pickE : Option En → Option En → Option En
  | none, y => y
  | some x, none => some x
  | some x, some y => some (if newB y x then y else x)
/-- J is what A and B come to. -/
structure IsJoin (A B J : List En) : Prop where
  ris : Ris J
  at' : ∀ k, look J k = pickE (look A k) (look B k)
theorem IsJoin.unique {A B J K : List En} (h : IsJoin A B J) (k : IsJoin A B K) : J = K := ris_ext h.ris k.ris (fun x => (h.at' x).trans (k.at' x).symm)
/-- What two books come to, one way to reckon it. -/
def mergeE : List En → List En → List En
  | [], B => B
  | a :: A, [] => a :: A
  | a :: A, b :: B => if a.key < b.key then a :: mergeE A (b :: B) else if b.key < a.key then b :: mergeE (a :: A) B else (if newB b a then b else a) :: mergeE A B
  termination_by A B => A.length + B.length
theorem mergeE_nil (B : List En) : mergeE [] B = B := by unfold mergeE; rfl
theorem mergeE_right (A : List En) : mergeE A [] = A := by
  cases A with
  | nil => exact mergeE_nil []
  | cons a A => unfold mergeE; rfl
theorem mergeE_cons (a b : En) (A B : List En) : mergeE (a :: A) (b :: B) = if a.key < b.key then a :: mergeE A (b :: B) else if b.key < a.key then b :: mergeE (a :: A) B else (if newB b a then b else a) :: mergeE A B := by
  conv => lhs; unfold mergeE
theorem pick_none_right (x : Option En) : pickE x none = x := by cases x <;> rfl
theorem merge_mem : ∀ (A B : List En) {e : En}, e ∈ mergeE A B → e ∈ A ∨ e ∈ B
  | [], B, e, h => by rw [mergeE_nil] at h; exact .inr h
  | a :: A, [], e, h => by rw [mergeE_right] at h; exact .inl h
  | a :: A, b :: B, e, h => by
    rw [mergeE_cons] at h
    by_cases h1 : a.key < b.key
    · rw [if_pos h1] at h
      rcases List.mem_cons.1 h with rfl | h
      · exact .inl (List.mem_cons_self ..)
      · rcases merge_mem A (b :: B) h with h | h
        · exact .inl (List.mem_cons_of_mem _ h)
        · exact .inr h
    · rw [if_neg h1] at h
      by_cases h2 : b.key < a.key
      · rw [if_pos h2] at h
        rcases List.mem_cons.1 h with rfl | h
        · exact .inr (List.mem_cons_self ..)
        · rcases merge_mem (a :: A) B h with h | h
          · exact .inl h
          · exact .inr (List.mem_cons_of_mem _ h)
      · rw [if_neg h2] at h
        rcases List.mem_cons.1 h with h | h
        · cases hn : newB b a
          · rw [hn] at h; exact .inl (by rw [h]; exact List.mem_cons_self ..)
          · rw [hn] at h; exact .inr (by rw [h]; exact List.mem_cons_self ..)
        · rcases merge_mem A B h with h | h
          · exact .inl (List.mem_cons_of_mem _ h)
          · exact .inr (List.mem_cons_of_mem _ h)
  termination_by A B => A.length + B.length
theorem merge_join : ∀ (A B : List En), Ris A → Ris B → IsJoin A B (mergeE A B)
  | [], B, _, hB => by rw [mergeE_nil]; exact ⟨hB, fun k => rfl⟩
  | a :: A, [], hA, _ => by rw [mergeE_right]; exact ⟨hA, fun k => by rw [look_nil, pick_none_right]⟩
  | a :: A, b :: B, hA, hB => by
    obtain ⟨a1, a2⟩ := ris_cons.1 hA
    obtain ⟨b1, b2⟩ := ris_cons.1 hB
    have noA : ∀ k, a.key = k → look A k = none := fun k e => look_none_of (fun x hx e' => by have := a1 x hx; rw [e', e] at this; exact Int.lt_irrefl _ this)
    have noB : ∀ k, b.key = k → look B k = none := fun k e => look_none_of (fun x hx e' => by have := b1 x hx; rw [e', e] at this; exact Int.lt_irrefl _ this)
    rw [mergeE_cons]
    by_cases h1 : a.key < b.key
    · rw [if_pos h1]
      have ih := merge_join A (b :: B) a2 hB
      refine ⟨ris_cons.2 ⟨fun x hx => ?_, ih.ris⟩, fun k => ?_⟩
      · rcases merge_mem A (b :: B) hx with h | h
        · exact a1 x h
        · rcases List.mem_cons.1 h with rfl | h
          · exact h1
          · exact Int.lt_trans h1 (b1 x h)
      · rw [look_cons, look_cons a, ih.at']
        by_cases e : a.key = k
        · rw [if_pos e, if_pos e, look_none_of (fun x hx e' => ?_), pick_none_right]
          rcases List.mem_cons.1 hx with rfl | h
          · rw [e', e] at h1; exact Int.lt_irrefl _ h1
          · have := Int.lt_trans h1 (b1 x h); rw [e', e] at this; exact Int.lt_irrefl _ this
        · rw [if_neg e, if_neg e]
    · rw [if_neg h1]
      by_cases h2 : b.key < a.key
      · rw [if_pos h2]
        have ih := merge_join (a :: A) B hA b2
        refine ⟨ris_cons.2 ⟨fun x hx => ?_, ih.ris⟩, fun k => ?_⟩
        · rcases merge_mem (a :: A) B hx with h | h
          · rcases List.mem_cons.1 h with rfl | h
            · exact h2
            · exact Int.lt_trans h2 (a1 x h)
          · exact b1 x h
        · rw [look_cons, look_cons b B, ih.at']
          by_cases e : b.key = k
          · rw [if_pos e, if_pos e, look_none_of (L := a :: A) (fun x hx e' => ?_)]
            · rfl
            · rcases List.mem_cons.1 hx with rfl | h
              · rw [e', e] at h2; exact Int.lt_irrefl _ h2
              · have := Int.lt_trans h2 (a1 x h); rw [e', e] at this; exact Int.lt_irrefl _ this
          · rw [if_neg e, if_neg e]
      · rw [if_neg h2]
        have hk : a.key = b.key := Int.le_antisymm (Int.not_lt.1 h2) (Int.not_lt.1 h1)
        have ih := merge_join A B a2 b2
        have kk : (if newB b a = true then b else a).key = a.key := by split <;> simp [hk]
        refine ⟨ris_cons.2 ⟨fun x hx => ?_, ih.ris⟩, fun k => ?_⟩
        · rw [kk]
          rcases merge_mem A B hx with h | h
          · exact a1 x h
          · rw [hk]; exact b1 x h
        · rw [look_cons, look_cons a A, look_cons b B, ih.at', kk]
          by_cases e : a.key = k
          · rw [if_pos e, if_pos e, if_pos (show b.key = k from hk.symm.trans e)]
            rfl
          · rw [if_neg e, if_neg e, if_neg (fun e' => e (hk.trans e'))]
  termination_by A B => A.length + B.length
theorem merge_length : ∀ (A B : List En), (mergeE A B).length ≤ A.length + B.length
  | [], B => by rw [mergeE_nil]; simp
  | a :: A, [] => by rw [mergeE_right]; simp
  | a :: A, b :: B => by
    rw [mergeE_cons]
    split
    · have := merge_length A (b :: B); simp at this ⊢; omega
    · split
      · have := merge_length (a :: A) B; simp at this ⊢; omega
      · have := merge_length A B; simp at this ⊢; omega
  termination_by A B => A.length + B.length
/-- What may be there lies under the Key k. -/
def KeyAt (k : Int) (o : Option En) : Prop := ∀ e, o = some e → e.key = k
theorem look_at (L : List En) (k : Int) : KeyAt k (look L k) := fun e h => (look_some h).2
theorem pick_at {k : Int} {x y : Option En} (hx : KeyAt k x) (hy : KeyAt k y) : KeyAt k (pickE x y) := by
  intro e h
  cases x with
  | none => exact hy e h
  | some a =>
    cases y with
    | none => exact hx e h
    | some b =>
      have h' := Option.some.inj h
      cases hn : newB b a with
      | true => rw [hn, if_pos rfl] at h'; rw [← h']; exact hy b rfl
      | false => rw [hn, if_neg (by decide)] at h'; rw [← h']; exact hx a rfl
theorem pick_comm {k : Int} {x y : Option En} (hx : KeyAt k x) (hy : KeyAt k y) : pickE x y = pickE y x := by
  cases x with
  | none => rw [pick_none_right]; rfl
  | some a =>
    cases y with
    | none => rfl
    | some b =>
      show some _ = some _
      cases h1 : newB b a with
      | true => rw [new_asymm h1]; simp
      | false =>
        cases h2 : newB a b with
        | true => simp
        | false => simp [en_ext ((hx a rfl).trans (hy b rfl).symm) h2 h1]
theorem pick_self (x : Option En) : pickE x x = x := by
  cases x with
  | none => rfl
  | some a => show some _ = some _; rw [new_irrefl]; simp
/-- The Newer of two, as an order: none is Newer. -/
theorem not_new_trans {a b c : En} (hk : a.key = b.key) (h : newB a b = false) (k : newB b c = false) : newB a c = false := by
  cases hac : newB a c with
  | false => rfl
  | true =>
    cases hba : newB b a with
    | true => exact absurd (new_trans hba hac) (by rw [k]; decide)
    | false => rw [en_ext hk h hba] at hac; rw [hac] at k; cases k
theorem pick_assoc {k : Int} {x y z : Option En} (hx : KeyAt k x) (hy : KeyAt k y) (hz : KeyAt k z) : pickE (pickE x y) z = pickE x (pickE y z) := by
  cases x with
  | none => rfl
  | some a =>
    cases y with
    | none => rfl
    | some b =>
      cases z with
      | none => rfl
      | some c =>
        have ka := hx a rfl
        have kb := hy b rfl
        have kc := hz c rfl
        cases h1 : newB b a with
        | true =>
          cases h2 : newB c b with
          | true => simp [pickE, h1, h2, new_trans h2 h1]
          | false => simp [pickE, h1, h2]
        | false =>
          cases h2 : newB c b with
          | true => simp [pickE, h1, h2]
          | false => simp [pickE, h1, h2, not_new_trans (kc.trans kb.symm) h2 h1]
theorem IsJoin.comm {A B J : List En} (h : IsJoin A B J) : IsJoin B A J := ⟨h.ris, fun k => (h.at' k).trans (pick_comm (look_at A k) (look_at B k))⟩
theorem IsJoin.own {A : List En} (h : Ris A) : IsJoin A A A := ⟨h, fun k => (pick_self _).symm⟩
theorem IsJoin.again {A B J : List En} (h : IsJoin A B J) : IsJoin J A J :=
  ⟨h.ris, fun k => by rw [h.at', pick_comm (look_at A k) (look_at B k), pick_assoc (look_at B k) (look_at A k) (look_at A k), pick_self]⟩
theorem IsJoin.assoc {A B C J K L M : List En} (h1 : IsJoin A B J) (h2 : IsJoin B C K) (h3 : IsJoin J C L) (h4 : IsJoin A K M) : L = M :=
  ris_ext h3.ris h4.ris (fun k => by rw [h3.at', h1.at', h4.at', h2.at', pick_assoc (look_at A k) (look_at B k) (look_at C k)])
theorem IsJoin.mem {A B J : List En} (h : IsJoin A B J) {e : En} (he : e ∈ J) : e ∈ A ∨ e ∈ B := by
  have hl := (look_mem h.ris he).symm.trans (h.at' e.key)
  cases hA : look A e.key with
  | none => rw [hA] at hl; exact .inr (look_some (k := e.key) hl.symm).1
  | some a =>
    cases hB : look B e.key with
    | none => rw [hA, hB] at hl; exact .inl (by rw [Option.some.inj hl]; exact (look_some hA).1)
    | some b =>
      rw [hA, hB] at hl
      have h' := Option.some.inj hl
      cases hn : newB b a with
      | true => rw [hn, if_pos rfl] at h'; rw [h']; exact .inr (look_some hB).1
      | false => rw [hn, if_neg (by decide)] at h'; rw [h']; exact .inl (look_some hA).1
/-- A book: at most 80 Entries that are right, Key rising. -/
def risB : List En → Bool
  | [] => true
  | [_] => true
  | a :: b :: L => decide (a.key < b.key) && risB (b :: L)
theorem risB_iff : ∀ L : List En, risB L = true ↔ Ris L
  | [] => by simp [risB, Ris]
  | [a] => by simp [risB, Ris]
  | a :: b :: L => by
    unfold risB
    rw [Bool.and_eq_true, decide_eq_true_eq, risB_iff (b :: L), ris_cons (a := a)]
    refine ⟨fun ⟨h1, h2⟩ => ⟨fun x hx => ?_, h2⟩, fun ⟨h1, h2⟩ => ⟨h1 b (List.mem_cons_self ..), h2⟩⟩
    rcases List.mem_cons.1 hx with rfl | hx
    · exact h1
    · exact Int.lt_trans h1 ((ris_cons.1 h2).1 x hx)
def okBk (L : List En) : Bool := decide (L.length ≤ 8) && L.all okE && risB L
theorem ok_ris {L : List En} (h : okBk L = true) : Ris L := by
  unfold okBk at h
  simp only [Bool.and_eq_true] at h
  exact (risB_iff L).1 h.2
theorem ok_len {L : List En} (h : okBk L = true) : L.length ≤ 8 := by
  unfold okBk at h
  simp only [Bool.and_eq_true, decide_eq_true_eq] at h
  exact h.1.1
theorem ok_all {L : List En} (h : okBk L = true) {e : En} (he : e ∈ L) : okE e = true := by
  unfold okBk at h
  simp only [Bool.and_eq_true, List.all_eq_true] at h
  exact h.1.2 e he
theorem ok_mk {L : List En} (h1 : L.length ≤ 8) (h2 : ∀ e ∈ L, okE e = true) (h3 : Ris L) : okBk L = true := by
  unfold okBk
  simp only [Bool.and_eq_true, decide_eq_true_eq, List.all_eq_true]
  exact ⟨⟨h1, h2⟩, (risB_iff L).2 h3⟩
/-- What Joined answers. -/
def joinB (A B : List En) : List En × Bool := if okBk A = true ∧ okBk B = true ∧ (mergeE A B).length ≤ 8 then (mergeE A B, true) else ([], false)
theorem join_ok {A B : List En} (h : (joinB A B).2 = true) : okBk A = true ∧ okBk B = true ∧ okBk (joinB A B).1 = true ∧ IsJoin A B (joinB A B).1 := by
  unfold joinB at h ⊢
  by_cases hc : okBk A = true ∧ okBk B = true ∧ (mergeE A B).length ≤ 8
  · rw [if_pos hc]
    have j := merge_join A B (ok_ris hc.1) (ok_ris hc.2.1)
    exact ⟨hc.1, hc.2.1, ok_mk hc.2.2 (fun e he => by rcases merge_mem A B he with h | h; exact ok_all hc.1 h; exact ok_all hc.2.1 h) j.ris, j⟩
  · rw [if_neg hc] at h; cases h
theorem join_no {A B : List En} (h : (joinB A B).2 = false) : (joinB A B).1 = [] := by
  unfold joinB at h ⊢
  by_cases hc : okBk A = true ∧ okBk B = true ∧ (mergeE A B).length ≤ 8
  · rw [if_pos hc] at h; cases h
  · rw [if_neg hc]
theorem joinB_len (A B : List En) : (joinB A B).1.length ≤ 8 := by
  unfold joinB
  by_cases hc : okBk A = true ∧ okBk B = true ∧ (mergeE A B).length ≤ 8
  · rw [if_pos hc]; exact hc.2.2
  · rw [if_neg hc]; simp
/-- Whoever shows what two books come to has what Joined answers. -/
theorem join_of {A B J : List En} (hA : okBk A = true) (hB : okBk B = true) (h : IsJoin A B J) : joinB A B = if J.length ≤ 8 then (J, true) else ([], false) := by
  have e : mergeE A B = J := (merge_join A B (ok_ris hA) (ok_ris hB)).unique h
  unfold joinB
  rw [e]
  by_cases hl : J.length ≤ 8
  · rw [if_pos ⟨hA, hB, hl⟩, if_pos hl]
  · rw [if_neg (fun h => hl h.2.2), if_neg hl]
end Go.Proofs.YtceddedlfdgbhaaGreatDoor.Mk
namespace Go.Proofs.YtceddedlfdgbhaaGreatDoor.Mm
open Go.ChangeShapes Go.WideShapes Go.ChangeAt Go.RowKit
open Go.Proofs.YtceddedlfdgbhaaGreatDoor.Rc (BelowBy BelowBy.one wp_region_below calls_below calls_same)
open Go.Proofs.YtceddedlfdgbhaaGreatDoor.Mk (okE newB okBk look Ris)
set_option linter.unusedVariables false
def toE (x : Rw) : Mk.En := ⟨x.1, [], x.2.1, x.2.2, false⟩
theorem toE_inj {x y : Rw} (h : toE x = toE y) : x = y := by
  obtain ⟨a, b, c⟩ := x
  obtain ⟨a', b', c'⟩ := y
  simp only [toE, Mk.En.mk.injEq] at h
  obtain ⟨rfl, _, rfl, rfl, _⟩ := h
  rfl
abbrev toB (L : List Rw) : List Mk.En := L.map toE
theorem toB_inj {L M : List Rw} (h : toB L = toB M) : L = M := by
  induction L generalizing M with
  | nil => cases M with
    | nil => rfl
    | cons y M => cases h
  | cons x L ih => cases M with
    | nil => cases h
    | cons y M =>
      simp only [toB, List.map_cons, List.cons.injEq] at h
      rw [toE_inj h.1, ih h.2]
abbrev kat (L : List Rw) (i : Nat) : Int := (rat L i).1
theorem new_str (x y : Rw) : newB (toE x) (toE y) = (decide (y.2.1 < x.2.1) || (decide (x.2.1 = y.2.1) && decide (y.2.2 < x.2.2))) := by
  obtain ⟨a, b, c⟩ := x
  obtain ⟨a', b', c'⟩ := y
  unfold newB toE
  simp only
  by_cases h : b = b'
  · subst h
    rw [if_neg (by simp)]
    by_cases k : c = c'
    · subst k; simp
    · rw [if_pos k]; simp
  · rw [if_pos h]
    simp [h]
theorem ris_of {L : List Rw} (h : ∀ i, i + 1 < L.length → kat L i < kat L (i + 1)) : Ris (toB L) := by
  unfold Ris
  rw [List.pairwise_iff_getElem]
  have far : ∀ d i, i + d + 1 < L.length → kat L i < kat L (i + d + 1) := by
    intro d
    induction d with
    | zero => intro i hi; exact h i hi
    | succ d ih => intro i hi; exact Int.lt_trans (ih i (by omega)) (h (i + d + 1) hi)
  intro i j hi hj hij
  rw [List.length_map] at hi hj
  have := far (j - i - 1) i (by omega)
  rw [show i + (j - i - 1) + 1 = j by omega] at this
  unfold kat at this
  rw [rat_at hi, rat_at hj] at this
  rw [List.getElem_map, List.getElem_map]
  exact this
theorem ris_to {L : List Rw} (h : Ris (toB L)) (i : Nat) (hi : i + 1 < L.length) : kat L i < kat L (i + 1) := by
  unfold Ris at h
  rw [List.pairwise_iff_getElem] at h
  have := h i (i + 1) (by rw [List.length_map]; omega) (by rw [List.length_map]; exact hi) (by omega)
  rw [List.getElem_map, List.getElem_map] at this
  unfold kat
  rw [rat_at (by omega), rat_at hi]
  exact this
theorem book_yes {L : List Rw} (h1 : L.length ≤ 8) (h2 : ∀ i, i < L.length → okE (toE (rat L i)) = true) (h3 : ∀ i, i + 1 < L.length → kat L i < kat L (i + 1)) : okBk (toB L) = true := by
  refine Mk.ok_mk (by rw [List.length_map]; exact h1) (fun e he => ?_) (ris_of h3)
  obtain ⟨x, hx, rfl⟩ := List.mem_map.1 he
  obtain ⟨i, hi, rfl⟩ := List.mem_iff_getElem.1 hx
  have := h2 i hi
  rwa [rat_at hi] at this
theorem book_no1 {L : List Rw} (h : ¬ L.length ≤ 8) : okBk (toB L) = false := by
  cases e : okBk (toB L) with
  | false => rfl
  | true => exact absurd (by have := Mk.ok_len e; rwa [List.length_map] at this) h
theorem book_no2 {L : List Rw} {i : Nat} (hi : i < L.length) (h : okE (toE (rat L i)) = false) : okBk (toB L) = false := by
  cases e : okBk (toB L) with
  | false => rfl
  | true =>
    have := Mk.ok_all e (List.mem_map.2 ⟨_, rat_mem hi, rfl⟩)
    rw [h] at this
    cases this
theorem book_no3 {L : List Rw} {i : Nat} (hi : i + 1 < L.length) (h : ¬ kat L i < kat L (i + 1)) : okBk (toB L) = false := by
  cases e : okBk (toB L) with
  | false => rfl
  | true => exact absurd (ris_to (Mk.ok_ris e) i hi) h
set_option maxRecDepth 100000 in
set_option maxHeartbeats 4000000 in
theorem spec_Stronger (x y : Rw) (w : World) : Calls Tryz.prog 78 #[rv x, rv y] w fun e w' => e = .returned (.bool (newB (toE x) (toE y))) ∧ Below w.heap.size w w' := by
  rw [new_str]
  obtain ⟨a, b, c⟩ := x
  obtain ⟨a', b', c'⟩ := y
  simp only
  by_cases h1 : b' < b
  · rw [decide_eq_true h1, Bool.true_or]
    go_enter Tryz.func78, Tryz.ntmps78
    go_wp2
    go_ret
    exact ⟨rfl, by go_grown⟩
  · rw [decide_eq_false h1, Bool.false_or]
    by_cases h2 : b = b'
    · subst h2
      have e2 : (b == b) = true := by simp
      rw [decide_eq_true rfl, Bool.true_and]
      go_enter Tryz.func78, Tryz.ntmps78
      go_wp2
      go_ret
      exact ⟨rfl, by go_grown⟩
    · have e2 : (b == b') = false := by simpa using h2
      rw [decide_eq_false h2, Bool.false_and]
      go_enter Tryz.func78, Tryz.ntmps78
      go_wp2
      go_ret
      exact ⟨rfl, by go_grown⟩
end Go.Proofs.YtceddedlfdgbhaaGreatDoor.Mm
namespace Go.Proofs.YtceddedlfdgbhaaGreatDoor.Mk
set_option linter.unusedVariables false
theorem look_append (X Y : List En) (k : Int) : look (X ++ Y) k = (look X k).or (look Y k) := by
  unfold look
  rw [List.find?_append]
theorem join_more {A B J J' : List En} {b : En} (h : IsJoin A B J) (hb : look B b.key = none) (r : Ris J') (e : ∀ x, look J' x = if x = b.key then pickE (look J x) (some b) else look J x) : IsJoin A (B ++ [b]) J' := by
  refine ⟨r, fun x => ?_⟩
  rw [e x, h.at', look_append, look_cons, look_nil]
  by_cases hx : x = b.key
  · subst hx
    rw [if_pos rfl, if_pos rfl, hb, pick_none_right]
    rfl
  · rw [if_neg hx, if_neg (fun e => hx e.symm)]
    cases look B x <;> rfl
/-- The Key is there: the one than which the other is not Newer. -/
theorem set_ris {X Y : List En} {c b : En} (h : Ris (X ++ c :: Y)) (hk : c.key = b.key) : Ris (X ++ b :: Y) := by
  unfold Ris at h ⊢
  rw [List.pairwise_append, List.pairwise_cons] at h ⊢
  refine ⟨h.1, ⟨fun y hy => hk ▸ h.2.1.1 y hy, h.2.1.2⟩, fun x hx y hy => ?_⟩
  rcases List.mem_cons.1 hy with rfl | hy
  · rw [← hk]; exact h.2.2 x hx c (List.mem_cons_self ..)
  · exact h.2.2 x hx y (List.mem_cons_of_mem _ hy)
theorem mid_look {X Y : List En} {c : En} (h : Ris (X ++ c :: Y)) (x : Int) : look (X ++ c :: Y) x = if x = c.key then some c else look (X ++ Y) x := by
  unfold Ris at h
  rw [List.pairwise_append, List.pairwise_cons] at h
  rw [look_append, look_append, look_cons]
  by_cases hx : x = c.key
  · subst hx
    rw [if_pos rfl, if_pos rfl, look_none_of (fun e he e' => by have := h.2.2 e he c (List.mem_cons_self ..); rw [e'] at this; exact Int.lt_irrefl _ this)]
    rfl
  · rw [if_neg hx, if_neg (fun e => hx e.symm)]
theorem mid_none {X Y : List En} {c : En} (h : Ris (X ++ c :: Y)) : look (X ++ Y) c.key = none := by
  unfold Ris at h
  rw [List.pairwise_append, List.pairwise_cons] at h
  refine look_none_of (fun e he e' => ?_)
  rcases List.mem_append.1 he with he | he
  · have := h.2.2 e he c (List.mem_cons_self ..); rw [e'] at this; exact Int.lt_irrefl _ this
  · have := h.2.1.1 e he; rw [e'] at this; exact Int.lt_irrefl _ this
theorem join_set {A B X Y : List En} {c b : En} (h : IsJoin A B (X ++ c :: Y)) (hb : look B b.key = none) (hk : c.key = b.key) (hn : newB b c = true) : IsJoin A (B ++ [b]) (X ++ b :: Y) := by
  have r := set_ris h.ris hk
  refine join_more h hb r (fun x => ?_)
  rw [mid_look r, mid_look h.ris]
  by_cases hx : x = b.key
  · rw [if_pos hx, if_pos hx, if_pos (hx.trans hk.symm)]
    show _ = some (if newB b c = true then b else c)
    rw [if_pos hn]
  · rw [if_neg hx, if_neg hx, if_neg (fun e => hx (e.trans hk))]
theorem join_keep {A B X Y : List En} {c b : En} (h : IsJoin A B (X ++ c :: Y)) (hb : look B b.key = none) (hk : c.key = b.key) (hn : newB b c = false) : IsJoin A (B ++ [b]) (X ++ c :: Y) := by
  refine join_more h hb h.ris (fun x => ?_)
  rw [mid_look h.ris]
  by_cases hx : x = b.key
  · rw [if_pos (hx.trans hk.symm), if_pos hx]
    show _ = some (if newB b c = true then b else c)
    rw [hn, if_neg (by decide)]
  · rw [if_neg (fun e => hx (e.trans hk)), if_neg hx]
theorem join_ins {A B X Y : List En} {b : En} (h : IsJoin A B (X ++ Y)) (hb : look B b.key = none) (hX : ∀ e ∈ X, e.key < b.key) (hY : ∀ e ∈ Y, b.key < e.key) : IsJoin A (B ++ [b]) (X ++ b :: Y) := by
  have r : Ris (X ++ b :: Y) := by
    have := h.ris
    unfold Ris at this ⊢
    rw [List.pairwise_append] at this ⊢
    refine ⟨this.1, List.pairwise_cons.2 ⟨hY, this.2.1⟩, fun x hx y hy => ?_⟩
    rcases List.mem_cons.1 hy with rfl | hy
    · exact hX x hx
    · exact this.2.2 x hx y hy
  refine join_more h hb r (fun x => ?_)
  rw [mid_look r]
  by_cases hx : x = b.key
  · subst hx
    rw [if_pos rfl, if_pos rfl, mid_none r]
    rfl
  · rw [if_neg hx, if_neg hx]
theorem take_none {B : List En} (h : Ris B) {i : Nat} (hi : i < B.length) : look (B.take i) (B[i]).key = none := by
  refine look_none_of (fun e he e' => ?_)
  obtain ⟨j, hj, rfl⟩ := List.mem_iff_getElem.1 he
  rw [List.length_take] at hj
  unfold Ris at h
  rw [List.pairwise_iff_getElem] at h
  have := h j i (by omega) hi (by omega)
  rw [List.getElem_take] at e'
  rw [e'] at this
  exact Int.lt_irrefl _ this
theorem join_start {A : List En} (h : Ris A) : IsJoin A [] A := ⟨h, fun k => by rw [look_nil, pick_none_right]⟩
end Go.Proofs.YtceddedlfdgbhaaGreatDoor.Mk
namespace Go.Proofs.YtceddedlfdgbhaaGreatDoor.Mm
open Go.Proofs.YtceddedlfdgbhaaGreatDoor.Mk (okE newB okBk look Ris IsJoin)
set_option linter.unusedVariables false
theorem toB_length (L : List Rw) : (toB L).length = L.length := List.length_map ..
theorem toB_at {L : List Rw} {i : Nat} (h : i < L.length) : (toB L)[i]'(by rw [toB_length]; exact h) = toE (rat L i) := by rw [rat_at h]; exact List.getElem_map ..
theorem split_at {M : List Rw} {k : Nat} (h : k < M.length) : M = M.take k ++ rat M k :: M.drop (k + 1) := by
  rw [rat_at h, List.getElem_cons_drop, List.take_append_drop]
/-- What l11Join has behind i Entries of the second book: one more. -/
theorem join_step {A B M : List Rw} {i k : Nat} (hB : Ris (toB B)) (hi : i < B.length) (h : IsJoin (toB A) ((toB B).take i) (toB M)) (hk : k ≤ M.length) (h1 : ∀ j, j < k → kat M j < kat B i) (h2 : k < M.length → ¬ kat M k < kat B i) :
    (∀ hk' : k < M.length, kat M k = kat B i → newB (toE (rat B i)) (toE (rat M k)) = true → IsJoin (toB A) ((toB B).take (i + 1)) (toB (M.set k (rat B i)))) ∧
    (∀ hk' : k < M.length, kat M k = kat B i → newB (toE (rat B i)) (toE (rat M k)) = false → IsJoin (toB A) ((toB B).take (i + 1)) (toB M)) ∧
    ((k < M.length → kat M k ≠ kat B i) → IsJoin (toB A) ((toB B).take (i + 1)) (toB (M.take k ++ rat B i :: M.drop k))) := by
  have hi' : i < (toB B).length := by rw [toB_length]; exact hi
  have hn := Mk.take_none hB hi'
  have et : (toB B).take (i + 1) = (toB B).take i ++ [toE (rat B i)] := by rw [List.take_add_one, List.getElem?_eq_getElem hi', toB_at hi]; rfl
  rw [toB_at hi] at hn
  rw [et]
  refine ⟨fun hk' e hnew => ?_, fun hk' e hnew => ?_, fun e => ?_⟩
  · rw [split_at hk'] at h
    simp only [toB, List.map_append, List.map_cons] at h ⊢
    rw [List.set_eq_take_append_cons_drop, if_pos hk']
    simp only [List.map_append, List.map_cons]
    exact Mk.join_set h hn e hnew
  · have h' := h
    rw [split_at hk'] at h'
    simp only [toB, List.map_append, List.map_cons] at h'
    have := Mk.join_keep h' hn e hnew
    rw [split_at hk']
    simp only [toB, List.map_append, List.map_cons]
    exact this
  · simp only [toB, List.map_append, List.map_cons]
    have hj : IsJoin (toB A) ((toB B).take i) ((M.take k).map toE ++ (M.drop k).map toE) := by rw [← List.map_append, List.take_append_drop]; exact h
    refine Mk.join_ins hj hn (fun x hx => ?_) (fun x hx => ?_)
    · obtain ⟨y, hy, rfl⟩ := List.mem_map.1 hx
      obtain ⟨j, hj, rfl⟩ := List.mem_iff_getElem.1 hy
      rw [List.length_take] at hj
      have := h1 j (by omega)
      unfold kat at this
      rw [rat_at (by omega)] at this
      rw [List.getElem_take]
      exact this
    · obtain ⟨y, hy, rfl⟩ := List.mem_map.1 hx
      obtain ⟨j, hj', rfl⟩ := List.mem_iff_getElem.1 hy
      rw [List.length_drop] at hj'
      have hk' : k < M.length := by omega
      have hlt : kat B i < kat M k := by
        rcases Classical.em (kat B i < kat M k) with h | h
        · exact h
        · exact absurd (Int.le_antisymm (Int.not_lt.1 h) (Int.not_lt.1 (h2 hk'))) (e hk')
      rw [List.getElem_drop]
      rcases Nat.eq_zero_or_pos j with hz | hp
      · subst hz
        unfold kat at hlt
        rw [rat_at hk'] at hlt
        exact hlt
      · have r := h.ris
        unfold Ris at r
        rw [List.pairwise_iff_getElem] at r
        have := r k (k + j) (by rw [toB_length]; exact hk') (by rw [toB_length]; omega) (by omega)
        rw [List.getElem_map, List.getElem_map] at this
        unfold kat at hlt
        rw [rat_at hk'] at hlt
        exact Int.lt_trans hlt this
end Go.Proofs.YtceddedlfdgbhaaGreatDoor.Mm
namespace Go.Proofs.YtceddedlfdgbhaaGreatDoor.Mm
open Go.ChangeShapes Go.WideShapes Go.ChangeAt Go.RowKit
open Go.Proofs.YtceddedlfdgbhaaGreatDoor.Rc (BelowBy BelowBy.one wp_region_below calls_below calls_same)
open Go.Proofs.YtceddedlfdgbhaaGreatDoor.Mk (okE newB okBk look Ris IsJoin)
set_option linter.unusedVariables false
/-- The three cells of a Member from place o of block b on. -/
abbrev five (w : World) (b o : Nat) (s u q : Int) : Prop := w.cell? ⟨b, o, none⟩ = some (.int .i64 s) ∧ w.cell? ⟨b, o + 1, none⟩ = some (.int .i64 u) ∧ w.cell? ⟨b, o + 2, none⟩ = some (.int .i64 q)
theorem five_kept {W w' : World} {b o : Nat} {s u q : Int} (k : Below W.heap.size W w') (h : five W b o s u q) : five w' b o s u q := by
  obtain ⟨h0, h1, h2⟩ := h
  exact ⟨by rw [k.cell (by simpa using cell_block h0)]; exact h0, by rw [k.cell (by simpa using cell_block h1)]; exact h1, by rw [k.cell (by simpa using cell_block h2)]; exact h2⟩
theorem five_rd {w : World} {b : Nat} {s u q : Int} (h : five w b 0 s u q) : Rd w (some ⟨b, 0, none⟩) [(s, u, q)] :=
  ⟨fun i hi => by
    have hi0 : i = 0 := by simp at hi; omega
    subst hi0
    refine ⟨b, 0, rfl, fun j hj => ?_⟩
    obtain ⟨h0, h1, h2⟩ := h
    match j, hj with
    | 0, _ => exact h0
    | 1, _ => exact h1
    | 2, _ => exact h2⟩
theorem five_grown {w w' : World} {r : Option Nat} {b o : Nat} {s u q : Int} (k : w.grownBy w' r) (h : five w b o s u q) (hr : some b ≠ r) : five w' b o s u q :=
  ⟨grown_cell1 k h.1 hr, grown_cell1 k h.2.1 hr, grown_cell1 k h.2.2 hr⟩
set_option maxRecDepth 100000 in
set_option maxHeartbeats 32000000 in
theorem spec_l12Merge (aA aB : Option Addr) (cA cB : Nat) (A B : List Rw) (w : World) (hA : Rd w aA A) (hB : Rd w aB B) (hnA : aA = none → cA = 0) (rA : Ris (toB A)) (rB : Ris (toB B)) (hl : A.length + B.length ≤ 900) :
    Calls Tryz.prog 59 #[.slice aA A.length cA, .slice aB B.length cB] w fun e w' => ∃ v J, e = .returned v ∧ v ≠ .slice none 0 0 ∧ Own w' w.heap.size v J ∧ IsJoin (toB A) (toB B) (toB J) ∧ J.length ≤ A.length + B.length ∧ Below w.heap.size w w' := by
  obtain ⟨i0, hi0, hz0, hz1, hz2⟩ := info_parts infoRw
  have HRA := hidIt hA
  have HRB := hidIt hB
  have HST := hidIt (fun i M k hi h hk h1 h2 => join_step (A := A) (B := B) (M := M) (i := i) (k := k) rB hi h hk h1 h2)
  have HS0 := hidIt (show IsJoin (toB A) ((toB B).take 0) (toB A) from by rw [List.take_zero]; exact Mk.join_start rA)
  have HSE : Hid ((toB B).take B.length = toB B) := hidIt (by rw [← toB_length, List.take_length])
  clear hA hB rA rB
  generalize hla : A.length = la at *
  generalize hlb : B.length = lb at *
  have HLA := hidIt hla
  have HLB := hidIt hlb
  clear hla hlb
  go_enter Tryz.func59, Tryz.ntmps59
  go_upto_region 1 with fail
  go_cut [5] from 9 (fun s5 wx => ∃ g cp : Nat, s5 = .slice (some ⟨g, 0, none⟩) la cp ∧ la ≤ cp ∧ cp ≤ 9223372036854775807 ∧ Hid (Own wx w.heap.size (.slice (some ⟨g, 0, none⟩) la cp) A) ∧ Hid (Below w.heap.size w wx))
  case first =>
    cases aA with
    | none =>
      have e := hnA rfl
      subst e
      have eA := HRA.out.none_nil
      have e0 : la = 0 := by rw [← HLA.out, eA]; rfl
      subst e0
      go_wp2_with (first | (at_builtin; refine wpList_append_own_none rfl _ _ 38 rfl w.heap.size 102 i0 3 Tryz.underlying38 hi0 _ _ _ rfl (Own.new w) rfl ?_))
      go_wp2_with (fail)
      go_meet
      case rel => exact ⟨_, 0, rfl, by omega, by omega, hidIt (by rw [eA]; exact Own.new w), hidIt ((Below.refl _ w).alloc (Nat.le_refl _) _)⟩
    | some x =>
      have hx : ∃ b off, x = ⟨b, off, none⟩ ∨ la = 0 := by
        rcases Nat.eq_zero_or_pos la with h | h
        · exact ⟨0, 0, .inr h⟩
        · obtain ⟨b, off, e, _⟩ := HRA.out.cell 0 (by rw [HLA.out]; exact h)
          cases e
          exact ⟨b, off, .inl rfl⟩
      have hcl : ∀ W : World, Below w.heap.size w W → ∀ j u, (rcells A)[j]? = some u → W.cell? (x.add j) = some u := by
        intro W k j u hj
        obtain ⟨b, off, h | h⟩ := hx
        · subst h
          exact (HRA.out.kept k).cells j u hj
        · have : A = [] := List.length_eq_zero_iff.1 (HLA.out.trans h)
          rw [this] at hj
          simp [rcells] at hj
      have HCL := hidIt hcl
      clear hx hcl
      go_wp2_with (first | (at_builtin; refine wpList_append_own _ rfl _ _ 38 rfl w.heap.size 102 i0 (.agg #[.int .i64 0, .int .i64 0, .int .i64 0]) 3 24 Tryz.underlying38 hi0 hz0 hz1 hz2 rfl (by decide) _ 0 [] rfl (Own.new w) x la _ (rcells A) rfl (by rw [rcells_length, HLA.out]) (HCL.out _ ((Below.refl _ w).alloc (Nat.le_refl _) _)) (rcells_one _) ?k1c3 ?k1c4 ?k1c5 ?_))
      case k1c3 => unfold maxLen; omega
      case k1c4 => omega
      intro v' w9 hown hgrow hnil
      have HO9 : Hid (Own w9 w.heap.size v' A) := hidIt (by
        unfold Own
        rw [HLA.out]
        first | exact hown | (rw [Nat.zero_add, List.nil_append] at hown; exact hown))
      have HB9 := hidIt (((Below.refl w.heap.size w).alloc (Nat.le_refl _) (.cells #[] 102)).grown hgrow (by simp) (fun z hz => by simp [Value.ownBlock] at hz; omega))
      have hv9 : v' ≠ .slice none 0 0 := by first | exact hnil | exact fun e => by have := (hnil.1 e).1; cases this
      obtain ⟨g9, c9, ev9, h9c, h9m, _, _⟩ := HO9.out.some_form hv9
      rw [HLA.out] at ev9 h9c
      subst ev9
      clear hown hgrow hnil hv9
      go_wp2_with (fail)
      go_meet
      case rel => exact ⟨g9, c9, rfl, h9c, h9m, HO9, HB9⟩
  case rest =>
    obtain ⟨g0, cp0, rfl, hc0, hm0, HO0, HB0⟩ := hcut
    clear HRA hnA
    go_wp2_with (fail)
    go_loopw [5, 6] (fun z y wx => ∃ (i : Nat) (M : List Rw) (g cp : Nat), y = .int .i64 i ∧ z = .slice (some ⟨g, 0, none⟩) M.length cp ∧ i ≤ lb ∧ M.length ≤ cp ∧ cp ≤ 9223372036854775807 ∧ M.length ≤ la + i ∧ Hid (Own wx w.heap.size (.slice (some ⟨g, 0, none⟩) M.length cp) M) ∧ Hid (IsJoin (toB A) ((toB B).take i) (toB M)) ∧ Hid (Below w.heap.size w wx)) (fun _ y _ => (lb - intOf y).toNat)
    case atStart => exact ⟨0, A, g0, cp0, rfl, by rw [HLA.out], by omega, by rw [HLA.out]; exact hc0, hm0, by rw [HLA.out]; omega, hidIt (by rw [HLA.out]; exact HO0.out), HS0, HB0⟩
    case round =>
      obtain ⟨i, M, g, cp, rfl, rfl, hi, hmc, hcm, hml, HO, HM, HB⟩ := hrel
      clear HO0 HB0 hc0 hm0 HS0
      by_cases hin : i < lb
      · have hin' : (i : Int) < (lb : Int) := by omega
        obtain ⟨b, off, ea, x0, x1, x2⟩ := (HRB.out.kept HB.out).all (i := i) (by rw [HLB.out]; exact hin)
        subst ea
        have HJ := hidIt (fun k hk h1 h2 => HST.out i M k hin HM.out hk h1 h2)
        have hkb : Hid (kat B i = (rat B i).1) := hidIt rfl
        generalize rat B i = x at x0 x1 x2 HJ hkb
        generalize kat B i = kb at HJ hkb
        obtain ⟨s, u, q⟩ := x
        simp only at x0 x1 x2 hkb
        have HF : Hid (five wr b (off + i * 3) s u q) := hidIt ⟨x0, x1, x2⟩
        clear x0 x1 x2 HM
        generalize hmm : M.length = mm at *
        have HML := hidIt hmm
        clear hmm
        generalize wr = wB at *
        go_wp2_with (fail)
        go_hide hQ1
        go_loopw [7] (fun y wx => ∃ k : Nat, y = .int .i64 k ∧ k ≤ mm ∧ Hid (∀ j, j < k → kat M j < kb) ∧ Hid (Below wB.heap.size wB wx)) (fun y _ => (mm - intOf y).toNat)
        case atStart => exact ⟨0, rfl, by omega, hidIt (fun j hj => by omega), hidIt (Below.refl _ _)⟩
        case round =>
          obtain ⟨k, rfl, hk, HK, HBk⟩ := hrel
          have HOk := hidIt (HO.out.kept HBk.out)
          obtain ⟨x0, x1, x2⟩ := five_kept HBk.out HF.out
          haveI := BelowBy.one wr
          have g0 := fun p : BelowBy wr => p.cell x0
          by_cases hkm : k < mm
          · have hkm' : (k : Int) < (mm : Int) := by omega
            have hd : decide ((k : Int) < (mm : Int)) = true := decide_eq_true hkm'
            have hkM : k < M.length := by rw [HML.out]; exact hkm
            have y0 := HOk.out.at hkM (j := 0) (by omega)
            have y1 := HOk.out.at hkM (j := 1) (by omega)
            have y2 := HOk.out.at hkM (j := 2) (by omega)
            simp only [rcell, Nat.add_zero] at y0 y1 y2
            have HV := hidIt (show kat M k = (rat M k).1 from rfl)
            have HIk := hidIt (HJ.out k (by omega) HK.out)
            have CNw := hidIt (fun W => spec_Stronger (s, u, q) (rat M k) W)
            generalize rat M k = y at y0 y1 y2 HV HIk CNw
            generalize hkM2 : kat M k = km at HV HIk
            have HKM := hidIt hkM2
            clear hkM2
            obtain ⟨s', u', q'⟩ := y
            simp only [rv] at y0 y1 y2 HV CNw
            have f0 := fun p : BelowBy wr => p.cell y0
            by_cases hlt : s' < s
            · have hless : decide (s' < s) = true := decide_eq_true hlt
              have hlt' : Hid (km < kb) := hidIt (by rw [HV.out, hkb.out]; exact hlt)
              clear hlt x0 x1 x2 y0 y1 y2
              go_wp2_with (fail)
              refine wp_region_below (by kernel_rfl) (by kernel_rfl) ?_
              repeat (go_big_quiet_step (fail))
              refine wpQuiet_nil ?_
              intro _ hw'
              obtain ⟨pq, rfl⟩ := hw'
              have HB2 := hidIt (HBk.out.trans (pq.h.mono HBk.out.size))
              generalize pq.world = w2 at HB2 ⊢
              clear f0 g0
              go_wp2_with (fail)
              refine ⟨⟨k + 1, by simp, by omega, hidIt (fun j hj => ?_), HB2⟩, by simp [intOf]; omega⟩
              rcases Nat.lt_or_ge j k with h' | h'
              · exact HK.out j h'
              · obtain rfl : j = k := by omega
                rw [HKM.out]
                exact hlt'.out
            · have hless : decide (s' < s) = false := decide_eq_false hlt
              have hnl : Hid (¬ km < kb) := hidIt (by rw [HV.out, hkb.out]; exact hlt)
              have HI2 := hidIt (HIk.out (fun _ => by first | exact hnl.out | exact Int.not_lt.1 hnl.out))
              clear hlt
              go_wp2_with (fail)
              refine wp_region_below (by kernel_rfl) (by kernel_rfl) ?_
              repeat (go_big_quiet_step (fail))
              refine wpQuiet_nil ?_
              intro _ hw'
              obtain ⟨pq, rfl⟩ := hw'
              have k1 := pq.h
              generalize pq.world = w1 at k1 ⊢
              have HB1 := hidIt (HBk.out.trans (k1.mono HBk.out.size))
              have HO1 := hidIt (HOk.out.kept k1)
              have HF1 := hidIt (five_kept HB1.out HF.out)
              have HY1 : Hid (five w1 g (k * 3) s' u' q') := hidIt (five_kept k1 ⟨y0, y1, y2⟩)
              clear f0 g0 k1 x0 x1 x2 y0 y1 y2 HOk hless
              obtain ⟨z0, z1, z2⟩ := HF1.out
              obtain ⟨y0, y1, y2⟩ := HY1.out
              haveI := BelowBy.one w1
              have g0 := fun p : BelowBy w1 => p.cell z0
              have f0 := fun p : BelowBy w1 => p.cell y0
              by_cases hes : s' = s
              · have heq : (s' == s) = true := by simpa using hes
                have hek : Hid (km = kb) := hidIt (by rw [HV.out, hkb.out]; exact hes)
                have g1 := fun p : BelowBy w1 => p.cell z1
                have g2 := fun p : BelowBy w1 => p.cell z2
                have f1 := fun p : BelowBy w1 => p.cell y1
                have f2 := fun p : BelowBy w1 => p.cell y2
                clear hes z0 z1 z2 y0 y1 y2
                go_wp2_with (fail)
                subst hQ1
                go_wp2_with (fail)
                refine wp_region_below (by kernel_rfl) (by kernel_rfl) ?_
                repeat (go_big_quiet_step (fail))
                refine wpQuiet_nil ?_
                intro _ hw'
                obtain ⟨pq, rfl⟩ := hw'
                have k2 := pq.h
                generalize pq.world = w2 at k2 ⊢
                haveI := BelowBy.one w2
                have g0' := fun p : BelowBy w2 => (g0 ⟨p.world, k2.trans (p.h.mono k2.size)⟩)
                have g1' := fun p : BelowBy w2 => (g1 ⟨p.world, k2.trans (p.h.mono k2.size)⟩)
                have g2' := fun p : BelowBy w2 => (g2 ⟨p.world, k2.trans (p.h.mono k2.size)⟩)
                have f0' := fun p : BelowBy w2 => (f0 ⟨p.world, k2.trans (p.h.mono k2.size)⟩)
                have f1' := fun p : BelowBy w2 => (f1 ⟨p.world, k2.trans (p.h.mono k2.size)⟩)
                have f2' := fun p : BelowBy w2 => (f2 ⟨p.world, k2.trans (p.h.mono k2.size)⟩)
                simp only at f0' f1' f2' g0' g1' g2'
                have HB2 := hidIt (HB1.out.trans (k2.mono HB1.out.size))
                have HO2 := hidIt (HO1.out.kept k2)
                have HF2 := hidIt (five_kept k2 HF1.out)
                clear f0 f1 f2 g0 g1 g2 k2
                obtain ⟨nw, hnw⟩ : ∃ nw, newB (toE (s, u, q)) (toE (s', u', q')) = nw := ⟨_, rfl⟩
                rw [hnw] at CNw
                have HNW := hidIt hnw
                clear hnw
                go_wp2_with (fail)
                refine wp_region_below (by kernel_rfl) (by kernel_rfl) ?_
                repeat (go_big_quiet_step (first | (go_at_call 78; refine calls_below (CNw.out _))))
                refine wpQuiet_nil ?_
                intro _ hw'
                obtain ⟨pq, rfl⟩ := hw'
                have k3 := pq.h
                generalize pq.world = w3 at k3 ⊢
                have HB3 := hidIt (HB2.out.trans (k3.mono HB2.out.size))
                have HO3 := hidIt (HO2.out.kept k3)
                have HF3 := hidIt (five_kept k3 HF2.out)
                clear f0' f1' f2' g0' g1' g2' k3
                have HB3w := hidIt (HB.out.trans (HB3.out.mono HB.out.size))
                have hkM3 : k < M.length := by rw [HML.out]; exact hkm
                cases nw with
                | false =>
                  go_wp2_with (fail)
                  exact ⟨⟨i + 1, M, g, cp, by simp, by rw [HML.out], by omega, by rw [HML.out]; exact hmc, hcm, by rw [HML.out]; omega, hidIt (by rw [HML.out]; exact HO3.out), hidIt ((HI2.out).2.1 hkm hek.out HNW.out), HB3w⟩, by simp [intOf]; omega⟩
                | true =>
                  obtain ⟨z0, z1, z2⟩ := HF3.out
                  have y0 := HO3.out.at hkM3 (j := 0) (by omega)
                  have y1 := HO3.out.at hkM3 (j := 1) (by omega)
                  have y2 := HO3.out.at hkM3 (j := 2) (by omega)
                  simp only [rcell, Nat.add_zero] at y0 y1 y2
                  have q0 := HO3.out.free (k * 3)
                  have q1 := HO3.out.free (k * 3 + 1)
                  have q2 := HO3.out.free (k * 3 + 2)
                  have HO4 := hidIt (HO3.out.whole hkM3 (s, u, q))
                  have hgB : w.heap.size ≤ g := by obtain ⟨cur, h, _⟩ := own_row HO3.out; exact h
                  have HB4 := hidIt (((HB3w.out.setCell (p := ⟨g, k * 3, none⟩) hgB (.int .i64 s)).setCell (p := ⟨g, k * 3 + 1, none⟩) hgB (.int .i64 u)).setCell (p := ⟨g, k * 3 + 2, none⟩) hgB (.int .i64 q))
                  go_wp2_with (fail)
                  exact ⟨⟨i + 1, M.set k (s, u, q), g, cp, by simp, by rw [List.length_set, HML.out], by omega, by rw [List.length_set, HML.out]; exact hmc, hcm, by rw [List.length_set, HML.out]; omega, hidIt (by rw [List.length_set, HML.out]; exact HO4.out), hidIt ((HI2.out).1 hkm hek.out HNW.out), HB4⟩, by simp [intOf]; omega⟩
              · have heq : (s' == s) = false := by simpa using hes
                have hnk : Hid (km ≠ kb) := hidIt (by rw [HV.out, hkb.out]; exact hes)
                have HFI := hidIt ((HI2.out).2.2 (fun _ => hnk.out))
                clear hes z0 z1 z2 y0 y1 y2 HI2 HIk HJ
                go_wp2_with (fail)
                subst hQ1
                go_wp2_with (fail)
                refine wp_region_below (by kernel_rfl) (by kernel_rfl) ?_
                repeat (go_big_quiet_step (fail))
                refine wpQuiet_nil ?_
                intro _ hw'
                obtain ⟨pq, rfl⟩ := hw'
                have k2 := pq.h
                generalize pq.world = w2 at k2 ⊢
                have HB2 := hidIt (HB1.out.trans (k2.mono HB1.out.size))
                have HO2 := hidIt (HO1.out.kept k2)
                have HF2 := hidIt (five_kept k2 HF1.out)
                have HBw := hidIt (HB.out.trans (HB2.out.mono HB.out.size))
                have hkm2 : (k : Int) ≤ (mm : Int) := by omega
                have hkle : k ≤ mm := by omega
                clear k2 f0 g0
                have HTl : Hid ((M.take k).length = k) := hidIt (by rw [List.length_take, HML.out]; omega)
                have HDl : Hid ((M.drop k).length = mm - k) := hidIt (by rw [List.length_drop, HML.out])
                have HE2 : Hid ((w2.alloc (.cells #[] 102)).ownsRow w.heap.size 102 3 (.slice (some ⟨w2.heap.size, 0, none⟩) 0 0) 0 []) := hidIt ((Own.new w2).mono HBw.out.size)
                by_cases hck : cp = k
                · have HPC := hidIt (fun W (hO : Own W w.heap.size (.slice (some ⟨g, 0, none⟩) mm cp) M) => show ∀ j u, (rcells (M.drop k))[j]? = some u → W.cell? ((⟨g, 0, none⟩ : Addr).add j) = some u from fun j u hj => by
                    have hd : M.drop k = [] := List.length_eq_zero_iff.1 (by rw [HDl.out]; omega)
                    rw [hd] at hj
                    simp [rcells] at hj)
                  go_wp2_with (first | (at_builtin; refine wpList_append_own _ rfl _ _ 38 rfl w.heap.size 102 i0 (.agg #[.int .i64 0, .int .i64 0, .int .i64 0]) 3 24 Tryz.underlying38 hi0 hz0 hz1 hz2 rfl (by decide) _ 0 [] rfl HE2.out ⟨g, 0, none⟩ _ _ (rcells (M.drop k)) rfl (by rw [rcells_length, HDl.out]; try omega) (HPC.out _ (HO2.out.alloc _)) (rcells_one _) ?k2c3 ?k2c4 ?k2c5 ?_))
                  case k2c3 => unfold maxLen; omega
                  case k2c4 => omega
                  case k2c5 => have := HBw.out.size; simp; omega
                  intro v7 w7 hown7 hgrow7 hnil7
                  have W7 := hidIt (((Below.refl w2.heap.size w2).alloc (Nat.le_refl _) (.cells #[] 102)).grown hgrow7 (by simp) (fun z hz => by simp [Value.ownBlock] at hz; omega))
                  have HO7 : Hid (Own w7 w.heap.size v7 (M.drop k)) := hidIt (by
                    unfold Own
                    rw [HDl.out]
                    first | exact hown7 | (rw [Nat.zero_add, List.nil_append] at hown7; exact hown7))
                  have hv7 : v7 ≠ .slice none 0 0 := by first | exact hnil7 | exact fun e => by have := (hnil7.1 e).1; cases this
                  obtain ⟨g7, c7, ev7, h7c, h7m, h7b, h7l⟩ := HO7.out.some_form hv7
                  rw [HDl.out] at ev7 h7c
                  subst ev7
                  have HM7 := hidIt (HO2.out.kept W7.out)
                  have HF7 := hidIt (five_kept W7.out HF2.out)
                  have HB7 := hidIt (HBw.out.trans (W7.out.mono HBw.out.size))
                  clear hown7 hgrow7 hnil7 hv7 HE2
                  go_wp2_with (fail)
                  have HE8 : Hid (Own ((w7.alloc (.cells #[] 102)).drew) w7.heap.size (.slice (some ⟨w7.heap.size, 0, none⟩) 0 0) []) := hidIt (Own.new w7).drew
                  have B8a := hidIt (((Below.refl w7.heap.size w7).alloc (Nat.le_refl _) (.cells #[] 102)).drew)
                  have HE8' : Hid (Own (((w7.alloc (.cells #[] 102)).alloc (.cells #[.int .i64 s, .int .i64 u, .int .i64 q] 102)).drew) w7.heap.size (.slice (some ⟨w7.heap.size, 0, none⟩) 0 0) []) := hidIt (((Own.new w7).alloc (.cells #[.int .i64 s, .int .i64 u, .int .i64 q] 102)).drew)
                  have B8a' := hidIt ((((Below.refl w7.heap.size w7).alloc (Nat.le_refl _) (.cells #[] 102)).alloc (by simp) (.cells #[.int .i64 s, .int .i64 u, .int .i64 q] 102)).drew)
                  have HXa : Hid (five (((w7.alloc (.cells #[] 102)).alloc (.cells #[.int .i64 s, .int .i64 u, .int .i64 q] 102)).drew) (w7.heap.size + 1) 0 s u q) := hidIt ⟨by simp, by simp, by simp⟩
                  have HMa' := hidIt (HM7.out.kept B8a'.out)
                  have HE9 : Hid (Own (((w7.alloc (.cells #[.int .i64 s, .int .i64 u, .int .i64 q] 102)).alloc (.cells #[] 102)).drew) w7.heap.size (.slice (some ⟨w7.heap.size + 1, 0, none⟩) 0 0) []) := hidIt (by have := ((Own.new (w7.alloc (.cells #[.int .i64 s, .int .i64 u, .int .i64 q] 102))).mono (b' := w7.heap.size) (by simp)).drew; simpa using this)
                  have B9a := hidIt ((((Below.refl w7.heap.size w7).alloc (Nat.le_refl _) (.cells #[.int .i64 s, .int .i64 u, .int .i64 q] 102)).alloc (by simp) (.cells #[] 102)).drew)
                  have HXc : Hid (five (((w7.alloc (.cells #[.int .i64 s, .int .i64 u, .int .i64 q] 102)).alloc (.cells #[] 102)).drew) w7.heap.size 0 s u q) := hidIt ⟨by simp, by simp, by simp⟩
                  have HMd := hidIt (HM7.out.kept B9a.out)
                  have B9z := hidIt (((Below.refl w7.heap.size w7).alloc (Nat.le_refl _) (.cells #[.int .i64 s, .int .i64 u, .int .i64 q] 102)).drew)
                  have HMa := hidIt (HM7.out.kept B8a.out)
                  have hf := HF7.out
                  have S0 : five w7.drew b (off + i * 3) s u q := hf
                  have S1 : five (w7.alloc (.cells #[] 102)).drew b (off + i * 3) s u q := five_kept B8a.out hf
                  have S2 : five ((w7.alloc (.cells #[] 102)).alloc (.cells #[.int .i64 s, .int .i64 u, .int .i64 q] 102)).drew b (off + i * 3) s u q := five_kept B8a'.out hf
                  have S3 : five ((w7.alloc (.cells #[.int .i64 s, .int .i64 u, .int .i64 q] 102)).alloc (.cells #[] 102)).drew b (off + i * 3) s u q := five_kept B9a.out hf
                  have S4 : five (w7.alloc (.cells #[.int .i64 s, .int .i64 u, .int .i64 q] 102)).drew b (off + i * 3) s u q := five_kept B9z.out hf
                  have hkc1 : (k : Int) ≤ (cp : Int) := by omega
                  have hkc2 : (0 : Int) ≤ (k : Int) := by omega
                  go_region_held3 (fun w' => five w' b (off + i * 3) s u q)
                    (first | (with_reducible assumption) | (with_reducible exact five_kept B8.out hf) | (with_reducible exact five_kept (B8.out.alloc B8.out.size _) hf) | (with_reducible exact five_kept B9.out hf) | (with_reducible exact five_kept B10.out hf) | (trace_state; fail))
                    (first
                    | (refine step_append (by rfl) (.tmp 75) (.tmp 78) (by rfl) w7.heap.size (.slice (some ⟨w7.heap.size, 0, none⟩) 0 0) [] (M.take k) (by simp [Act.eval]) HE8.out ⟨g, 0, none⟩ k cp HTl.out (by simp [Act.eval] <;> omega) (HMa.out.front k (by rw [HML.out]; omega)) (by simp; omega) (by simp) ?_; intro v8 w8 o8 gr8 nil8; have B8 := hidIt (B8a.out.grown gr8 (by simp) (fun z hz => by simp [Value.ownBlock] at hz; omega)); have HO8 := hidIt o8; clear o8 gr8)
                    | (refine step_append (by rfl) (.tmp 75) (.tmp 78) (by rfl) w7.heap.size (.slice (some ⟨w7.heap.size, 0, none⟩) 0 0) [] (M.take k) (by simp [Act.eval]) HE8'.out ⟨g, 0, none⟩ k cp HTl.out (by simp [Act.eval] <;> omega) (HMa'.out.front k (by rw [HML.out]; omega)) (by simp; omega) (by simp; omega) ?_; intro v8 w8 o8 gr8 nil8; have HXb : Hid (five w8 (w7.heap.size + 1) 0 s u q) := hidIt (five_grown gr8 HXa.out (by simp [Value.ownBlock])); have B8 := hidIt (B8a'.out.grown gr8 (by simp; omega) (fun z hz => by simp [Value.ownBlock] at hz; omega)); have HO8 := hidIt o8; clear o8 gr8)
                    | (refine step_append (by rfl) (.tmp 75) (.tmp 78) (by rfl) w7.heap.size (.slice (some ⟨w7.heap.size + 1, 0, none⟩) 0 0) [] (M.take k) (by simp [Act.eval]) HE9.out ⟨g, 0, none⟩ k cp HTl.out (by simp [Act.eval] <;> omega) (HMd.out.front k (by rw [HML.out]; omega)) (by simp; omega) (by simp; omega) ?_; intro v8 w8 o8 gr8 nil8; have HXd : Hid (five w8 w7.heap.size 0 s u q) := hidIt (five_grown gr8 HXc.out (by simp [Value.ownBlock])); have B8 := hidIt (B9a.out.grown gr8 (by simp; omega) (fun z hz => by simp [Value.ownBlock] at hz; omega)); have HO8 := hidIt o8; clear o8 gr8)
                    | (refine step_append (by rfl) (.tmp 79) (.tmp 84) (by rfl) w7.heap.size v8 (M.take k) [(s, u, q)] (by simp [Act.eval]) (HO8.out.alloc _) ⟨w8.heap.size, 0, none⟩ 1 1 rfl (by simp [Act.eval]) (fresh w8 (s, u, q) 102) (by rw [HTl.out]; omega) (by have := B8.out.size; simp; omega) ?_; intro v9 w9 o9 gr9 nil9; have B9 := hidIt ((B8.out.alloc B8.out.size (.cells #[.int .i64 s, .int .i64 u, .int .i64 q] 102)).grown gr9 (by have := B8.out.size; simp; omega) (fun z hz => (World.ownsRow.lt HO8.out z hz).1)); have HO9 := hidIt o9; have HMc := hidIt (HO7.out.kept B9.out); clear o9 gr9)
                    | (refine step_append (by rfl) (.tmp 79) (.tmp 84) (by rfl) w7.heap.size v8 (M.take k) [(s, u, q)] (by simp [Act.eval]) HO8.out ⟨w7.heap.size + 1, 0, none⟩ 1 1 rfl (by simp [Act.eval]) (five_rd HXb.out).cells (by rw [HTl.out]; omega) B8.out.size ?_; intro v9 w9 o9 gr9 nil9; have B9 := hidIt (B8.out.grown gr9 B8.out.size (fun z hz => (World.ownsRow.lt HO8.out z hz).1)); have HO9 := hidIt o9; have HMc := hidIt (HO7.out.kept B9.out); clear o9 gr9)
                    | (refine step_append (by rfl) (.tmp 79) (.tmp 84) (by rfl) w7.heap.size v8 (M.take k) [(s, u, q)] (by simp [Act.eval]) HO8.out ⟨w7.heap.size, 0, none⟩ 1 1 rfl (by simp [Act.eval]) (five_rd HXd.out).cells (by rw [HTl.out]; omega) B8.out.size ?_; intro v9 w9 o9 gr9 nil9; have B9 := hidIt (B8.out.grown gr9 B8.out.size (fun z hz => (World.ownsRow.lt HO8.out z hz).1)); have HO9 := hidIt o9; have HMc := hidIt (HO7.out.kept B9.out); clear o9 gr9)
                    | (refine step_append (by rfl) (.tmp 85) (.tmp 86) (by rfl) w7.heap.size v9 (M.take k ++ [(s, u, q)]) (M.drop k) (by simp [Act.eval]) HO9.out ⟨g7, 0, none⟩ (mm - k) c7 HDl.out (by simp [Act.eval]) (by have := HMc.out.front (mm - k) (by rw [HDl.out]; exact Nat.le_refl _); rw [← HDl.out, List.take_length] at this; exact this) (by rw [List.length_append, HTl.out]; simp; omega) B9.out.size ?_; intro v10 w10 o10 gr10 nil10; have B10 := hidIt (B9.out.grown gr10 B9.out.size (fun z hz => (World.ownsRow.lt HO9.out z hz).1)); have HO10 := hidIt o10; have N10 := hidIt nil10; have N9 := hidIt nil9; have N8 := hidIt nil8; clear o10 gr10 nil10 nil9 nil8))
                  all_goals
                    have hv10 : v10 ≠ .slice none 0 0 := fun e => by
                      have h9 := (N10.out.1 e).1
                      have := (N9.out.1 h9).2
                      omega
                    obtain ⟨g10, c10, ev10, h10c, h10m, h10b, h10l⟩ := HO10.out.some_form hv10
                    subst ev10
                    have HO11 := hidIt (HO10.out.mono (b' := w.heap.size) HB7.out.size)
                    have HB11 := hidIt (HB7.out.trans (B10.out.mono HB7.out.size))
                    have hlen : (M.take k ++ [(s, u, q)] ++ M.drop k).length = mm + 1 := by rw [List.length_append, List.length_append, HTl.out, HDl.out]; simp; omega
                    have HLn := hidIt hlen
                    clear N10 N9 N8 HO10 hv10 hf S0 S1 S2 S3 S4 hlen
                    go_wp2_with (fail)
                    exact ⟨⟨i + 1, M.take k ++ [(s, u, q)] ++ M.drop k, g10, c10, by simp, rfl, by omega, h10c, h10m, by rw [HLn.out]; omega, HO11, hidIt (by rw [List.append_assoc, List.singleton_append]; exact HFI.out), HB11⟩, by simp [intOf]; omega⟩
                · have HPC := hidIt (fun W (hO : Own W w.heap.size (.slice (some ⟨g, 0, none⟩) mm cp) M) => hO.piece k (by rw [HML.out]; omega))
                  go_wp2_with (first | (at_builtin; refine wpList_append_own _ rfl _ _ 38 rfl w.heap.size 102 i0 (.agg #[.int .i64 0, .int .i64 0, .int .i64 0]) 3 24 Tryz.underlying38 hi0 hz0 hz1 hz2 rfl (by decide) _ 0 [] rfl HE2.out ⟨g, k * 3, none⟩ _ _ (rcells (M.drop k)) rfl (by rw [rcells_length, HDl.out]; try omega) (HPC.out _ (HO2.out.alloc _)) (rcells_one _) ?k3c3 ?k3c4 ?k3c5 ?_))
                  case k3c3 => unfold maxLen; omega
                  case k3c4 => omega
                  case k3c5 => have := HBw.out.size; simp; omega
                  intro v7 w7 hown7 hgrow7 hnil7
                  have W7 := hidIt (((Below.refl w2.heap.size w2).alloc (Nat.le_refl _) (.cells #[] 102)).grown hgrow7 (by simp) (fun z hz => by simp [Value.ownBlock] at hz; omega))
                  have HO7 : Hid (Own w7 w.heap.size v7 (M.drop k)) := hidIt (by
                    unfold Own
                    rw [HDl.out]
                    first | exact hown7 | (rw [Nat.zero_add, List.nil_append] at hown7; exact hown7))
                  have hv7 : v7 ≠ .slice none 0 0 := by first | exact hnil7 | exact fun e => by have := (hnil7.1 e).1; cases this
                  obtain ⟨g7, c7, ev7, h7c, h7m, h7b, h7l⟩ := HO7.out.some_form hv7
                  rw [HDl.out] at ev7 h7c
                  subst ev7
                  have HM7 := hidIt (HO2.out.kept W7.out)
                  have HF7 := hidIt (five_kept W7.out HF2.out)
                  have HB7 := hidIt (HBw.out.trans (W7.out.mono HBw.out.size))
                  clear hown7 hgrow7 hnil7 hv7 HE2
                  go_wp2_with (fail)
                  have HE8 : Hid (Own ((w7.alloc (.cells #[] 102)).drew) w7.heap.size (.slice (some ⟨w7.heap.size, 0, none⟩) 0 0) []) := hidIt (Own.new w7).drew
                  have B8a := hidIt (((Below.refl w7.heap.size w7).alloc (Nat.le_refl _) (.cells #[] 102)).drew)
                  have HE8' : Hid (Own (((w7.alloc (.cells #[] 102)).alloc (.cells #[.int .i64 s, .int .i64 u, .int .i64 q] 102)).drew) w7.heap.size (.slice (some ⟨w7.heap.size, 0, none⟩) 0 0) []) := hidIt (((Own.new w7).alloc (.cells #[.int .i64 s, .int .i64 u, .int .i64 q] 102)).drew)
                  have B8a' := hidIt ((((Below.refl w7.heap.size w7).alloc (Nat.le_refl _) (.cells #[] 102)).alloc (by simp) (.cells #[.int .i64 s, .int .i64 u, .int .i64 q] 102)).drew)
                  have HXa : Hid (five (((w7.alloc (.cells #[] 102)).alloc (.cells #[.int .i64 s, .int .i64 u, .int .i64 q] 102)).drew) (w7.heap.size + 1) 0 s u q) := hidIt ⟨by simp, by simp, by simp⟩
                  have HMa' := hidIt (HM7.out.kept B8a'.out)
                  have HE9 : Hid (Own (((w7.alloc (.cells #[.int .i64 s, .int .i64 u, .int .i64 q] 102)).alloc (.cells #[] 102)).drew) w7.heap.size (.slice (some ⟨w7.heap.size + 1, 0, none⟩) 0 0) []) := hidIt (by have := ((Own.new (w7.alloc (.cells #[.int .i64 s, .int .i64 u, .int .i64 q] 102))).mono (b' := w7.heap.size) (by simp)).drew; simpa using this)
                  have B9a := hidIt ((((Below.refl w7.heap.size w7).alloc (Nat.le_refl _) (.cells #[.int .i64 s, .int .i64 u, .int .i64 q] 102)).alloc (by simp) (.cells #[] 102)).drew)
                  have HXc : Hid (five (((w7.alloc (.cells #[.int .i64 s, .int .i64 u, .int .i64 q] 102)).alloc (.cells #[] 102)).drew) w7.heap.size 0 s u q) := hidIt ⟨by simp, by simp, by simp⟩
                  have HMd := hidIt (HM7.out.kept B9a.out)
                  have B9z := hidIt (((Below.refl w7.heap.size w7).alloc (Nat.le_refl _) (.cells #[.int .i64 s, .int .i64 u, .int .i64 q] 102)).drew)
                  have HMa := hidIt (HM7.out.kept B8a.out)
                  have hf := HF7.out
                  have S0 : five w7.drew b (off + i * 3) s u q := hf
                  have S1 : five (w7.alloc (.cells #[] 102)).drew b (off + i * 3) s u q := five_kept B8a.out hf
                  have S2 : five ((w7.alloc (.cells #[] 102)).alloc (.cells #[.int .i64 s, .int .i64 u, .int .i64 q] 102)).drew b (off + i * 3) s u q := five_kept B8a'.out hf
                  have S3 : five ((w7.alloc (.cells #[.int .i64 s, .int .i64 u, .int .i64 q] 102)).alloc (.cells #[] 102)).drew b (off + i * 3) s u q := five_kept B9a.out hf
                  have S4 : five (w7.alloc (.cells #[.int .i64 s, .int .i64 u, .int .i64 q] 102)).drew b (off + i * 3) s u q := five_kept B9z.out hf
                  have hkc1 : (k : Int) ≤ (cp : Int) := by omega
                  have hkc2 : (0 : Int) ≤ (k : Int) := by omega
                  go_region_held3 (fun w' => five w' b (off + i * 3) s u q)
                    (first | (with_reducible assumption) | (with_reducible exact five_kept B8.out hf) | (with_reducible exact five_kept (B8.out.alloc B8.out.size _) hf) | (with_reducible exact five_kept B9.out hf) | (with_reducible exact five_kept B10.out hf) | (trace_state; fail))
                    (first
                    | (refine step_append (by rfl) (.tmp 75) (.tmp 78) (by rfl) w7.heap.size (.slice (some ⟨w7.heap.size, 0, none⟩) 0 0) [] (M.take k) (by simp [Act.eval]) HE8.out ⟨g, 0, none⟩ k cp HTl.out (by simp [Act.eval] <;> omega) (HMa.out.front k (by rw [HML.out]; omega)) (by simp; omega) (by simp) ?_; intro v8 w8 o8 gr8 nil8; have B8 := hidIt (B8a.out.grown gr8 (by simp) (fun z hz => by simp [Value.ownBlock] at hz; omega)); have HO8 := hidIt o8; clear o8 gr8)
                    | (refine step_append (by rfl) (.tmp 75) (.tmp 78) (by rfl) w7.heap.size (.slice (some ⟨w7.heap.size, 0, none⟩) 0 0) [] (M.take k) (by simp [Act.eval]) HE8'.out ⟨g, 0, none⟩ k cp HTl.out (by simp [Act.eval] <;> omega) (HMa'.out.front k (by rw [HML.out]; omega)) (by simp; omega) (by simp; omega) ?_; intro v8 w8 o8 gr8 nil8; have HXb : Hid (five w8 (w7.heap.size + 1) 0 s u q) := hidIt (five_grown gr8 HXa.out (by simp [Value.ownBlock])); have B8 := hidIt (B8a'.out.grown gr8 (by simp; omega) (fun z hz => by simp [Value.ownBlock] at hz; omega)); have HO8 := hidIt o8; clear o8 gr8)
                    | (refine step_append (by rfl) (.tmp 75) (.tmp 78) (by rfl) w7.heap.size (.slice (some ⟨w7.heap.size + 1, 0, none⟩) 0 0) [] (M.take k) (by simp [Act.eval]) HE9.out ⟨g, 0, none⟩ k cp HTl.out (by simp [Act.eval] <;> omega) (HMd.out.front k (by rw [HML.out]; omega)) (by simp; omega) (by simp; omega) ?_; intro v8 w8 o8 gr8 nil8; have HXd : Hid (five w8 w7.heap.size 0 s u q) := hidIt (five_grown gr8 HXc.out (by simp [Value.ownBlock])); have B8 := hidIt (B9a.out.grown gr8 (by simp; omega) (fun z hz => by simp [Value.ownBlock] at hz; omega)); have HO8 := hidIt o8; clear o8 gr8)
                    | (refine step_append (by rfl) (.tmp 79) (.tmp 84) (by rfl) w7.heap.size v8 (M.take k) [(s, u, q)] (by simp [Act.eval]) (HO8.out.alloc _) ⟨w8.heap.size, 0, none⟩ 1 1 rfl (by simp [Act.eval]) (fresh w8 (s, u, q) 102) (by rw [HTl.out]; omega) (by have := B8.out.size; simp; omega) ?_; intro v9 w9 o9 gr9 nil9; have B9 := hidIt ((B8.out.alloc B8.out.size (.cells #[.int .i64 s, .int .i64 u, .int .i64 q] 102)).grown gr9 (by have := B8.out.size; simp; omega) (fun z hz => (World.ownsRow.lt HO8.out z hz).1)); have HO9 := hidIt o9; have HMc := hidIt (HO7.out.kept B9.out); clear o9 gr9)
                    | (refine step_append (by rfl) (.tmp 79) (.tmp 84) (by rfl) w7.heap.size v8 (M.take k) [(s, u, q)] (by simp [Act.eval]) HO8.out ⟨w7.heap.size + 1, 0, none⟩ 1 1 rfl (by simp [Act.eval]) (five_rd HXb.out).cells (by rw [HTl.out]; omega) B8.out.size ?_; intro v9 w9 o9 gr9 nil9; have B9 := hidIt (B8.out.grown gr9 B8.out.size (fun z hz => (World.ownsRow.lt HO8.out z hz).1)); have HO9 := hidIt o9; have HMc := hidIt (HO7.out.kept B9.out); clear o9 gr9)
                    | (refine step_append (by rfl) (.tmp 79) (.tmp 84) (by rfl) w7.heap.size v8 (M.take k) [(s, u, q)] (by simp [Act.eval]) HO8.out ⟨w7.heap.size, 0, none⟩ 1 1 rfl (by simp [Act.eval]) (five_rd HXd.out).cells (by rw [HTl.out]; omega) B8.out.size ?_; intro v9 w9 o9 gr9 nil9; have B9 := hidIt (B8.out.grown gr9 B8.out.size (fun z hz => (World.ownsRow.lt HO8.out z hz).1)); have HO9 := hidIt o9; have HMc := hidIt (HO7.out.kept B9.out); clear o9 gr9)
                    | (refine step_append (by rfl) (.tmp 85) (.tmp 86) (by rfl) w7.heap.size v9 (M.take k ++ [(s, u, q)]) (M.drop k) (by simp [Act.eval]) HO9.out ⟨g7, 0, none⟩ (mm - k) c7 HDl.out (by simp [Act.eval]) (by have := HMc.out.front (mm - k) (by rw [HDl.out]; exact Nat.le_refl _); rw [← HDl.out, List.take_length] at this; exact this) (by rw [List.length_append, HTl.out]; simp; omega) B9.out.size ?_; intro v10 w10 o10 gr10 nil10; have B10 := hidIt (B9.out.grown gr10 B9.out.size (fun z hz => (World.ownsRow.lt HO9.out z hz).1)); have HO10 := hidIt o10; have N10 := hidIt nil10; have N9 := hidIt nil9; have N8 := hidIt nil8; clear o10 gr10 nil10 nil9 nil8))
                  all_goals
                    have hv10 : v10 ≠ .slice none 0 0 := fun e => by
                      have h9 := (N10.out.1 e).1
                      have := (N9.out.1 h9).2
                      omega
                    obtain ⟨g10, c10, ev10, h10c, h10m, h10b, h10l⟩ := HO10.out.some_form hv10
                    subst ev10
                    have HO11 := hidIt (HO10.out.mono (b' := w.heap.size) HB7.out.size)
                    have HB11 := hidIt (HB7.out.trans (B10.out.mono HB7.out.size))
                    have hlen : (M.take k ++ [(s, u, q)] ++ M.drop k).length = mm + 1 := by rw [List.length_append, List.length_append, HTl.out, HDl.out]; simp; omega
                    have HLn := hidIt hlen
                    clear N10 N9 N8 HO10 hv10 hf S0 S1 S2 S3 S4 hlen
                    go_wp2_with (fail)
                    exact ⟨⟨i + 1, M.take k ++ [(s, u, q)] ++ M.drop k, g10, c10, by simp, rfl, by omega, h10c, h10m, by rw [HLn.out]; omega, HO11, hidIt (by rw [List.append_assoc, List.singleton_append]; exact HFI.out), HB11⟩, by simp [intOf]; omega⟩
          · have hkm' : ¬ (k : Int) < (mm : Int) := by omega
            have HFI := hidIt ((HJ.out k (by omega) HK.out (fun h => by omega)).2.2 (fun h => by omega))
            clear HJ
            go_wp2_with (fail)
            refine wp_region_below (by kernel_rfl) (by kernel_rfl) ?_
            repeat (go_big_quiet_step (fail))
            refine wpQuiet_nil ?_
            intro _ hw'
            obtain ⟨pq, rfl⟩ := hw'
            have k1 := pq.h
            generalize pq.world = w1 at k1 ⊢
            have HB1 := hidIt (HBk.out.trans (k1.mono HBk.out.size))
            have HO1 := hidIt (HOk.out.kept k1)
            have HF1 := hidIt (five_kept HB1.out HF.out)
            haveI := BelowBy.one w1
            clear g0 k1 x0 x1 x2 HOk
            go_wp2_with (fail)
            subst hQ1
            go_wp2_with (fail)
            refine wp_region_below (by kernel_rfl) (by kernel_rfl) ?_
            repeat (go_big_quiet_step (fail))
            refine wpQuiet_nil ?_
            intro _ hw'
            obtain ⟨pq, rfl⟩ := hw'
            have k2 := pq.h
            generalize pq.world = w2 at k2 ⊢
            have HB2 := hidIt (HB1.out.trans (k2.mono HB1.out.size))
            have HO2 := hidIt (HO1.out.kept k2)
            have HF2 := hidIt (five_kept k2 HF1.out)
            have HBw := hidIt (HB.out.trans (HB2.out.mono HB.out.size))
            have hkm2 : (k : Int) ≤ (mm : Int) := by omega
            have hkle : k ≤ mm := by omega
            clear k2
            have HTl : Hid ((M.take k).length = k) := hidIt (by rw [List.length_take, HML.out]; omega)
            have HDl : Hid ((M.drop k).length = mm - k) := hidIt (by rw [List.length_drop, HML.out])
            have HE2 : Hid ((w2.alloc (.cells #[] 102)).ownsRow w.heap.size 102 3 (.slice (some ⟨w2.heap.size, 0, none⟩) 0 0) 0 []) := hidIt ((Own.new w2).mono HBw.out.size)
            by_cases hck : cp = k
            · have HPC := hidIt (fun W (hO : Own W w.heap.size (.slice (some ⟨g, 0, none⟩) mm cp) M) => show ∀ j u, (rcells (M.drop k))[j]? = some u → W.cell? ((⟨g, 0, none⟩ : Addr).add j) = some u from fun j u hj => by
                have hd : M.drop k = [] := List.length_eq_zero_iff.1 (by rw [HDl.out]; omega)
                rw [hd] at hj
                simp [rcells] at hj)
              go_wp2_with (first | (at_builtin; refine wpList_append_own _ rfl _ _ 38 rfl w.heap.size 102 i0 (.agg #[.int .i64 0, .int .i64 0, .int .i64 0]) 3 24 Tryz.underlying38 hi0 hz0 hz1 hz2 rfl (by decide) _ 0 [] rfl HE2.out ⟨g, 0, none⟩ _ _ (rcells (M.drop k)) rfl (by rw [rcells_length, HDl.out]; try omega) (HPC.out _ (HO2.out.alloc _)) (rcells_one _) ?k4c3 ?k4c4 ?k4c5 ?_))
              case k4c3 => unfold maxLen; omega
              case k4c4 => omega
              case k4c5 => have := HBw.out.size; simp; omega
              intro v7 w7 hown7 hgrow7 hnil7
              have W7 := hidIt (((Below.refl w2.heap.size w2).alloc (Nat.le_refl _) (.cells #[] 102)).grown hgrow7 (by simp) (fun z hz => by simp [Value.ownBlock] at hz; omega))
              have HO7 : Hid (Own w7 w.heap.size v7 (M.drop k)) := hidIt (by
                unfold Own
                rw [HDl.out]
                first | exact hown7 | (rw [Nat.zero_add, List.nil_append] at hown7; exact hown7))
              have hv7 : v7 ≠ .slice none 0 0 := by first | exact hnil7 | exact fun e => by have := (hnil7.1 e).1; cases this
              obtain ⟨g7, c7, ev7, h7c, h7m, h7b, h7l⟩ := HO7.out.some_form hv7
              rw [HDl.out] at ev7 h7c
              subst ev7
              have HM7 := hidIt (HO2.out.kept W7.out)
              have HF7 := hidIt (five_kept W7.out HF2.out)
              have HB7 := hidIt (HBw.out.trans (W7.out.mono HBw.out.size))
              clear hown7 hgrow7 hnil7 hv7 HE2
              go_wp2_with (fail)
              have HE8 : Hid (Own ((w7.alloc (.cells #[] 102)).drew) w7.heap.size (.slice (some ⟨w7.heap.size, 0, none⟩) 0 0) []) := hidIt (Own.new w7).drew
              have B8a := hidIt (((Below.refl w7.heap.size w7).alloc (Nat.le_refl _) (.cells #[] 102)).drew)
              have HE8' : Hid (Own (((w7.alloc (.cells #[] 102)).alloc (.cells #[.int .i64 s, .int .i64 u, .int .i64 q] 102)).drew) w7.heap.size (.slice (some ⟨w7.heap.size, 0, none⟩) 0 0) []) := hidIt (((Own.new w7).alloc (.cells #[.int .i64 s, .int .i64 u, .int .i64 q] 102)).drew)
              have B8a' := hidIt ((((Below.refl w7.heap.size w7).alloc (Nat.le_refl _) (.cells #[] 102)).alloc (by simp) (.cells #[.int .i64 s, .int .i64 u, .int .i64 q] 102)).drew)
              have HXa : Hid (five (((w7.alloc (.cells #[] 102)).alloc (.cells #[.int .i64 s, .int .i64 u, .int .i64 q] 102)).drew) (w7.heap.size + 1) 0 s u q) := hidIt ⟨by simp, by simp, by simp⟩
              have HMa' := hidIt (HM7.out.kept B8a'.out)
              have HE9 : Hid (Own (((w7.alloc (.cells #[.int .i64 s, .int .i64 u, .int .i64 q] 102)).alloc (.cells #[] 102)).drew) w7.heap.size (.slice (some ⟨w7.heap.size + 1, 0, none⟩) 0 0) []) := hidIt (by have := ((Own.new (w7.alloc (.cells #[.int .i64 s, .int .i64 u, .int .i64 q] 102))).mono (b' := w7.heap.size) (by simp)).drew; simpa using this)
              have B9a := hidIt ((((Below.refl w7.heap.size w7).alloc (Nat.le_refl _) (.cells #[.int .i64 s, .int .i64 u, .int .i64 q] 102)).alloc (by simp) (.cells #[] 102)).drew)
              have HXc : Hid (five (((w7.alloc (.cells #[.int .i64 s, .int .i64 u, .int .i64 q] 102)).alloc (.cells #[] 102)).drew) w7.heap.size 0 s u q) := hidIt ⟨by simp, by simp, by simp⟩
              have HMd := hidIt (HM7.out.kept B9a.out)
              have B9z := hidIt (((Below.refl w7.heap.size w7).alloc (Nat.le_refl _) (.cells #[.int .i64 s, .int .i64 u, .int .i64 q] 102)).drew)
              have HMa := hidIt (HM7.out.kept B8a.out)
              have hf := HF7.out
              have S0 : five w7.drew b (off + i * 3) s u q := hf
              have S1 : five (w7.alloc (.cells #[] 102)).drew b (off + i * 3) s u q := five_kept B8a.out hf
              have S2 : five ((w7.alloc (.cells #[] 102)).alloc (.cells #[.int .i64 s, .int .i64 u, .int .i64 q] 102)).drew b (off + i * 3) s u q := five_kept B8a'.out hf
              have S3 : five ((w7.alloc (.cells #[.int .i64 s, .int .i64 u, .int .i64 q] 102)).alloc (.cells #[] 102)).drew b (off + i * 3) s u q := five_kept B9a.out hf
              have S4 : five (w7.alloc (.cells #[.int .i64 s, .int .i64 u, .int .i64 q] 102)).drew b (off + i * 3) s u q := five_kept B9z.out hf
              have hkc1 : (k : Int) ≤ (cp : Int) := by omega
              have hkc2 : (0 : Int) ≤ (k : Int) := by omega
              go_region_held3 (fun w' => five w' b (off + i * 3) s u q)
                (first | (with_reducible assumption) | (with_reducible exact five_kept B8.out hf) | (with_reducible exact five_kept (B8.out.alloc B8.out.size _) hf) | (with_reducible exact five_kept B9.out hf) | (with_reducible exact five_kept B10.out hf) | (trace_state; fail))
                (first
                | (refine step_append (by rfl) (.tmp 75) (.tmp 78) (by rfl) w7.heap.size (.slice (some ⟨w7.heap.size, 0, none⟩) 0 0) [] (M.take k) (by simp [Act.eval]) HE8.out ⟨g, 0, none⟩ k cp HTl.out (by simp [Act.eval] <;> omega) (HMa.out.front k (by rw [HML.out]; omega)) (by simp; omega) (by simp) ?_; intro v8 w8 o8 gr8 nil8; have B8 := hidIt (B8a.out.grown gr8 (by simp) (fun z hz => by simp [Value.ownBlock] at hz; omega)); have HO8 := hidIt o8; clear o8 gr8)
                | (refine step_append (by rfl) (.tmp 75) (.tmp 78) (by rfl) w7.heap.size (.slice (some ⟨w7.heap.size, 0, none⟩) 0 0) [] (M.take k) (by simp [Act.eval]) HE8'.out ⟨g, 0, none⟩ k cp HTl.out (by simp [Act.eval] <;> omega) (HMa'.out.front k (by rw [HML.out]; omega)) (by simp; omega) (by simp; omega) ?_; intro v8 w8 o8 gr8 nil8; have HXb : Hid (five w8 (w7.heap.size + 1) 0 s u q) := hidIt (five_grown gr8 HXa.out (by simp [Value.ownBlock])); have B8 := hidIt (B8a'.out.grown gr8 (by simp; omega) (fun z hz => by simp [Value.ownBlock] at hz; omega)); have HO8 := hidIt o8; clear o8 gr8)
                | (refine step_append (by rfl) (.tmp 75) (.tmp 78) (by rfl) w7.heap.size (.slice (some ⟨w7.heap.size + 1, 0, none⟩) 0 0) [] (M.take k) (by simp [Act.eval]) HE9.out ⟨g, 0, none⟩ k cp HTl.out (by simp [Act.eval] <;> omega) (HMd.out.front k (by rw [HML.out]; omega)) (by simp; omega) (by simp; omega) ?_; intro v8 w8 o8 gr8 nil8; have HXd : Hid (five w8 w7.heap.size 0 s u q) := hidIt (five_grown gr8 HXc.out (by simp [Value.ownBlock])); have B8 := hidIt (B9a.out.grown gr8 (by simp; omega) (fun z hz => by simp [Value.ownBlock] at hz; omega)); have HO8 := hidIt o8; clear o8 gr8)
                | (refine step_append (by rfl) (.tmp 79) (.tmp 84) (by rfl) w7.heap.size v8 (M.take k) [(s, u, q)] (by simp [Act.eval]) (HO8.out.alloc _) ⟨w8.heap.size, 0, none⟩ 1 1 rfl (by simp [Act.eval]) (fresh w8 (s, u, q) 102) (by rw [HTl.out]; omega) (by have := B8.out.size; simp; omega) ?_; intro v9 w9 o9 gr9 nil9; have B9 := hidIt ((B8.out.alloc B8.out.size (.cells #[.int .i64 s, .int .i64 u, .int .i64 q] 102)).grown gr9 (by have := B8.out.size; simp; omega) (fun z hz => (World.ownsRow.lt HO8.out z hz).1)); have HO9 := hidIt o9; have HMc := hidIt (HO7.out.kept B9.out); clear o9 gr9)
                | (refine step_append (by rfl) (.tmp 79) (.tmp 84) (by rfl) w7.heap.size v8 (M.take k) [(s, u, q)] (by simp [Act.eval]) HO8.out ⟨w7.heap.size + 1, 0, none⟩ 1 1 rfl (by simp [Act.eval]) (five_rd HXb.out).cells (by rw [HTl.out]; omega) B8.out.size ?_; intro v9 w9 o9 gr9 nil9; have B9 := hidIt (B8.out.grown gr9 B8.out.size (fun z hz => (World.ownsRow.lt HO8.out z hz).1)); have HO9 := hidIt o9; have HMc := hidIt (HO7.out.kept B9.out); clear o9 gr9)
                | (refine step_append (by rfl) (.tmp 79) (.tmp 84) (by rfl) w7.heap.size v8 (M.take k) [(s, u, q)] (by simp [Act.eval]) HO8.out ⟨w7.heap.size, 0, none⟩ 1 1 rfl (by simp [Act.eval]) (five_rd HXd.out).cells (by rw [HTl.out]; omega) B8.out.size ?_; intro v9 w9 o9 gr9 nil9; have B9 := hidIt (B8.out.grown gr9 B8.out.size (fun z hz => (World.ownsRow.lt HO8.out z hz).1)); have HO9 := hidIt o9; have HMc := hidIt (HO7.out.kept B9.out); clear o9 gr9)
                | (refine step_append (by rfl) (.tmp 85) (.tmp 86) (by rfl) w7.heap.size v9 (M.take k ++ [(s, u, q)]) (M.drop k) (by simp [Act.eval]) HO9.out ⟨g7, 0, none⟩ (mm - k) c7 HDl.out (by simp [Act.eval]) (by have := HMc.out.front (mm - k) (by rw [HDl.out]; exact Nat.le_refl _); rw [← HDl.out, List.take_length] at this; exact this) (by rw [List.length_append, HTl.out]; simp; omega) B9.out.size ?_; intro v10 w10 o10 gr10 nil10; have B10 := hidIt (B9.out.grown gr10 B9.out.size (fun z hz => (World.ownsRow.lt HO9.out z hz).1)); have HO10 := hidIt o10; have N10 := hidIt nil10; have N9 := hidIt nil9; have N8 := hidIt nil8; clear o10 gr10 nil10 nil9 nil8))
              all_goals
                have hv10 : v10 ≠ .slice none 0 0 := fun e => by
                  have h9 := (N10.out.1 e).1
                  have := (N9.out.1 h9).2
                  omega
                obtain ⟨g10, c10, ev10, h10c, h10m, h10b, h10l⟩ := HO10.out.some_form hv10
                subst ev10
                have HO11 := hidIt (HO10.out.mono (b' := w.heap.size) HB7.out.size)
                have HB11 := hidIt (HB7.out.trans (B10.out.mono HB7.out.size))
                have hlen : (M.take k ++ [(s, u, q)] ++ M.drop k).length = mm + 1 := by rw [List.length_append, List.length_append, HTl.out, HDl.out]; simp; omega
                have HLn := hidIt hlen
                clear N10 N9 N8 HO10 hv10 hf S0 S1 S2 S3 S4 hlen
                go_wp2_with (fail)
                exact ⟨⟨i + 1, M.take k ++ [(s, u, q)] ++ M.drop k, g10, c10, by simp, rfl, by omega, h10c, h10m, by rw [HLn.out]; omega, HO11, hidIt (by rw [List.append_assoc, List.singleton_append]; exact HFI.out), HB11⟩, by simp [intOf]; omega⟩
            · have HPC := hidIt (fun W (hO : Own W w.heap.size (.slice (some ⟨g, 0, none⟩) mm cp) M) => hO.piece k (by rw [HML.out]; omega))
              go_wp2_with (first | (at_builtin; refine wpList_append_own _ rfl _ _ 38 rfl w.heap.size 102 i0 (.agg #[.int .i64 0, .int .i64 0, .int .i64 0]) 3 24 Tryz.underlying38 hi0 hz0 hz1 hz2 rfl (by decide) _ 0 [] rfl HE2.out ⟨g, k * 3, none⟩ _ _ (rcells (M.drop k)) rfl (by rw [rcells_length, HDl.out]; try omega) (HPC.out _ (HO2.out.alloc _)) (rcells_one _) ?k5c3 ?k5c4 ?k5c5 ?_))
              case k5c3 => unfold maxLen; omega
              case k5c4 => omega
              case k5c5 => have := HBw.out.size; simp; omega
              intro v7 w7 hown7 hgrow7 hnil7
              have W7 := hidIt (((Below.refl w2.heap.size w2).alloc (Nat.le_refl _) (.cells #[] 102)).grown hgrow7 (by simp) (fun z hz => by simp [Value.ownBlock] at hz; omega))
              have HO7 : Hid (Own w7 w.heap.size v7 (M.drop k)) := hidIt (by
                unfold Own
                rw [HDl.out]
                first | exact hown7 | (rw [Nat.zero_add, List.nil_append] at hown7; exact hown7))
              have hv7 : v7 ≠ .slice none 0 0 := by first | exact hnil7 | exact fun e => by have := (hnil7.1 e).1; cases this
              obtain ⟨g7, c7, ev7, h7c, h7m, h7b, h7l⟩ := HO7.out.some_form hv7
              rw [HDl.out] at ev7 h7c
              subst ev7
              have HM7 := hidIt (HO2.out.kept W7.out)
              have HF7 := hidIt (five_kept W7.out HF2.out)
              have HB7 := hidIt (HBw.out.trans (W7.out.mono HBw.out.size))
              clear hown7 hgrow7 hnil7 hv7 HE2
              go_wp2_with (fail)
              have HE8 : Hid (Own ((w7.alloc (.cells #[] 102)).drew) w7.heap.size (.slice (some ⟨w7.heap.size, 0, none⟩) 0 0) []) := hidIt (Own.new w7).drew
              have B8a := hidIt (((Below.refl w7.heap.size w7).alloc (Nat.le_refl _) (.cells #[] 102)).drew)
              have HE8' : Hid (Own (((w7.alloc (.cells #[] 102)).alloc (.cells #[.int .i64 s, .int .i64 u, .int .i64 q] 102)).drew) w7.heap.size (.slice (some ⟨w7.heap.size, 0, none⟩) 0 0) []) := hidIt (((Own.new w7).alloc (.cells #[.int .i64 s, .int .i64 u, .int .i64 q] 102)).drew)
              have B8a' := hidIt ((((Below.refl w7.heap.size w7).alloc (Nat.le_refl _) (.cells #[] 102)).alloc (by simp) (.cells #[.int .i64 s, .int .i64 u, .int .i64 q] 102)).drew)
              have HXa : Hid (five (((w7.alloc (.cells #[] 102)).alloc (.cells #[.int .i64 s, .int .i64 u, .int .i64 q] 102)).drew) (w7.heap.size + 1) 0 s u q) := hidIt ⟨by simp, by simp, by simp⟩
              have HMa' := hidIt (HM7.out.kept B8a'.out)
              have HE9 : Hid (Own (((w7.alloc (.cells #[.int .i64 s, .int .i64 u, .int .i64 q] 102)).alloc (.cells #[] 102)).drew) w7.heap.size (.slice (some ⟨w7.heap.size + 1, 0, none⟩) 0 0) []) := hidIt (by have := ((Own.new (w7.alloc (.cells #[.int .i64 s, .int .i64 u, .int .i64 q] 102))).mono (b' := w7.heap.size) (by simp)).drew; simpa using this)
              have B9a := hidIt ((((Below.refl w7.heap.size w7).alloc (Nat.le_refl _) (.cells #[.int .i64 s, .int .i64 u, .int .i64 q] 102)).alloc (by simp) (.cells #[] 102)).drew)
              have HXc : Hid (five (((w7.alloc (.cells #[.int .i64 s, .int .i64 u, .int .i64 q] 102)).alloc (.cells #[] 102)).drew) w7.heap.size 0 s u q) := hidIt ⟨by simp, by simp, by simp⟩
              have HMd := hidIt (HM7.out.kept B9a.out)
              have B9z := hidIt (((Below.refl w7.heap.size w7).alloc (Nat.le_refl _) (.cells #[.int .i64 s, .int .i64 u, .int .i64 q] 102)).drew)
              have HMa := hidIt (HM7.out.kept B8a.out)
              have hf := HF7.out
              have S0 : five w7.drew b (off + i * 3) s u q := hf
              have S1 : five (w7.alloc (.cells #[] 102)).drew b (off + i * 3) s u q := five_kept B8a.out hf
              have S2 : five ((w7.alloc (.cells #[] 102)).alloc (.cells #[.int .i64 s, .int .i64 u, .int .i64 q] 102)).drew b (off + i * 3) s u q := five_kept B8a'.out hf
              have S3 : five ((w7.alloc (.cells #[.int .i64 s, .int .i64 u, .int .i64 q] 102)).alloc (.cells #[] 102)).drew b (off + i * 3) s u q := five_kept B9a.out hf
              have S4 : five (w7.alloc (.cells #[.int .i64 s, .int .i64 u, .int .i64 q] 102)).drew b (off + i * 3) s u q := five_kept B9z.out hf
              have hkc1 : (k : Int) ≤ (cp : Int) := by omega
              have hkc2 : (0 : Int) ≤ (k : Int) := by omega
              go_region_held3 (fun w' => five w' b (off + i * 3) s u q)
                (first | (with_reducible assumption) | (with_reducible exact five_kept B8.out hf) | (with_reducible exact five_kept (B8.out.alloc B8.out.size _) hf) | (with_reducible exact five_kept B9.out hf) | (with_reducible exact five_kept B10.out hf) | (trace_state; fail))
                (first
                | (refine step_append (by rfl) (.tmp 75) (.tmp 78) (by rfl) w7.heap.size (.slice (some ⟨w7.heap.size, 0, none⟩) 0 0) [] (M.take k) (by simp [Act.eval]) HE8.out ⟨g, 0, none⟩ k cp HTl.out (by simp [Act.eval] <;> omega) (HMa.out.front k (by rw [HML.out]; omega)) (by simp; omega) (by simp) ?_; intro v8 w8 o8 gr8 nil8; have B8 := hidIt (B8a.out.grown gr8 (by simp) (fun z hz => by simp [Value.ownBlock] at hz; omega)); have HO8 := hidIt o8; clear o8 gr8)
                | (refine step_append (by rfl) (.tmp 75) (.tmp 78) (by rfl) w7.heap.size (.slice (some ⟨w7.heap.size, 0, none⟩) 0 0) [] (M.take k) (by simp [Act.eval]) HE8'.out ⟨g, 0, none⟩ k cp HTl.out (by simp [Act.eval] <;> omega) (HMa'.out.front k (by rw [HML.out]; omega)) (by simp; omega) (by simp; omega) ?_; intro v8 w8 o8 gr8 nil8; have HXb : Hid (five w8 (w7.heap.size + 1) 0 s u q) := hidIt (five_grown gr8 HXa.out (by simp [Value.ownBlock])); have B8 := hidIt (B8a'.out.grown gr8 (by simp; omega) (fun z hz => by simp [Value.ownBlock] at hz; omega)); have HO8 := hidIt o8; clear o8 gr8)
                | (refine step_append (by rfl) (.tmp 75) (.tmp 78) (by rfl) w7.heap.size (.slice (some ⟨w7.heap.size + 1, 0, none⟩) 0 0) [] (M.take k) (by simp [Act.eval]) HE9.out ⟨g, 0, none⟩ k cp HTl.out (by simp [Act.eval] <;> omega) (HMd.out.front k (by rw [HML.out]; omega)) (by simp; omega) (by simp; omega) ?_; intro v8 w8 o8 gr8 nil8; have HXd : Hid (five w8 w7.heap.size 0 s u q) := hidIt (five_grown gr8 HXc.out (by simp [Value.ownBlock])); have B8 := hidIt (B9a.out.grown gr8 (by simp; omega) (fun z hz => by simp [Value.ownBlock] at hz; omega)); have HO8 := hidIt o8; clear o8 gr8)
                | (refine step_append (by rfl) (.tmp 79) (.tmp 84) (by rfl) w7.heap.size v8 (M.take k) [(s, u, q)] (by simp [Act.eval]) (HO8.out.alloc _) ⟨w8.heap.size, 0, none⟩ 1 1 rfl (by simp [Act.eval]) (fresh w8 (s, u, q) 102) (by rw [HTl.out]; omega) (by have := B8.out.size; simp; omega) ?_; intro v9 w9 o9 gr9 nil9; have B9 := hidIt ((B8.out.alloc B8.out.size (.cells #[.int .i64 s, .int .i64 u, .int .i64 q] 102)).grown gr9 (by have := B8.out.size; simp; omega) (fun z hz => (World.ownsRow.lt HO8.out z hz).1)); have HO9 := hidIt o9; have HMc := hidIt (HO7.out.kept B9.out); clear o9 gr9)
                | (refine step_append (by rfl) (.tmp 79) (.tmp 84) (by rfl) w7.heap.size v8 (M.take k) [(s, u, q)] (by simp [Act.eval]) HO8.out ⟨w7.heap.size + 1, 0, none⟩ 1 1 rfl (by simp [Act.eval]) (five_rd HXb.out).cells (by rw [HTl.out]; omega) B8.out.size ?_; intro v9 w9 o9 gr9 nil9; have B9 := hidIt (B8.out.grown gr9 B8.out.size (fun z hz => (World.ownsRow.lt HO8.out z hz).1)); have HO9 := hidIt o9; have HMc := hidIt (HO7.out.kept B9.out); clear o9 gr9)
                | (refine step_append (by rfl) (.tmp 79) (.tmp 84) (by rfl) w7.heap.size v8 (M.take k) [(s, u, q)] (by simp [Act.eval]) HO8.out ⟨w7.heap.size, 0, none⟩ 1 1 rfl (by simp [Act.eval]) (five_rd HXd.out).cells (by rw [HTl.out]; omega) B8.out.size ?_; intro v9 w9 o9 gr9 nil9; have B9 := hidIt (B8.out.grown gr9 B8.out.size (fun z hz => (World.ownsRow.lt HO8.out z hz).1)); have HO9 := hidIt o9; have HMc := hidIt (HO7.out.kept B9.out); clear o9 gr9)
                | (refine step_append (by rfl) (.tmp 85) (.tmp 86) (by rfl) w7.heap.size v9 (M.take k ++ [(s, u, q)]) (M.drop k) (by simp [Act.eval]) HO9.out ⟨g7, 0, none⟩ (mm - k) c7 HDl.out (by simp [Act.eval]) (by have := HMc.out.front (mm - k) (by rw [HDl.out]; exact Nat.le_refl _); rw [← HDl.out, List.take_length] at this; exact this) (by rw [List.length_append, HTl.out]; simp; omega) B9.out.size ?_; intro v10 w10 o10 gr10 nil10; have B10 := hidIt (B9.out.grown gr10 B9.out.size (fun z hz => (World.ownsRow.lt HO9.out z hz).1)); have HO10 := hidIt o10; have N10 := hidIt nil10; have N9 := hidIt nil9; have N8 := hidIt nil8; clear o10 gr10 nil10 nil9 nil8))
              all_goals
                have hv10 : v10 ≠ .slice none 0 0 := fun e => by
                  have h9 := (N10.out.1 e).1
                  have := (N9.out.1 h9).2
                  omega
                obtain ⟨g10, c10, ev10, h10c, h10m, h10b, h10l⟩ := HO10.out.some_form hv10
                subst ev10
                have HO11 := hidIt (HO10.out.mono (b' := w.heap.size) HB7.out.size)
                have HB11 := hidIt (HB7.out.trans (B10.out.mono HB7.out.size))
                have hlen : (M.take k ++ [(s, u, q)] ++ M.drop k).length = mm + 1 := by rw [List.length_append, List.length_append, HTl.out, HDl.out]; simp; omega
                have HLn := hidIt hlen
                clear N10 N9 N8 HO10 hv10 hf S0 S1 S2 S3 S4 hlen
                go_wp2_with (fail)
                exact ⟨⟨i + 1, M.take k ++ [(s, u, q)] ++ M.drop k, g10, c10, by simp, rfl, by omega, h10c, h10m, by rw [HLn.out]; omega, HO11, hidIt (by rw [List.append_assoc, List.singleton_append]; exact HFI.out), HB11⟩, by simp [intOf]; omega⟩
      · have hin' : ¬ (i : Int) < (lb : Int) := by omega
        have HI : Hid (i = lb) := hidIt (by omega)
        have HE : Hid (IsJoin (toB A) (toB B) (toB M)) := hidIt (by have := HM.out; rw [HI.out, HSE.out] at this; exact this)
        go_wp2_with (fail)
        go_ret
        first | exact ⟨_, M, rfl, (fun e => by cases e), HO.out, HE.out, by omega, HB.out⟩ | exact ⟨_, rfl, (fun e => by cases e), M, HO.out, HE.out, by omega, HB.out⟩
end Go.Proofs.YtceddedlfdgbhaaGreatDoor.Mm
