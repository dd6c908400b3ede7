/-
  A list of numbers (int64) as it lies in memory: one cell a number; a row of the call's own.
  Members in plain words, as books are: by Id, which is Stronger, what is found under an Id, what two lists come to. (Written out of BokP by wip/mkMem.py.) No program in sight.
  Members as rows; Stronger of the specification.
  One Member more put into what two lists come to. (Written out of BokQ by wip/mkMem.py.)
  l12Merge of the specification. (Written out of BokJ by wip/mkMem.py.)
-/
import Derived.Test.YtllajhieocploaaGreatDoorMem
import Derived.Test.YtllajhieocploaaGreatDoorProg
import Derived.OpenShut
import Derived.Laws.OwnMore
import Derived.Deep.OwnRows
import Derived.OwnWalk
import Derived.Laws.AppendOwn
import Derived.Lib.SmallJoins
import Derived.WalkKit
import Derived.Test.YtllajhieocploaaGreatDoorMem2M
import Derived.Test.YtllajhieocploaaGreatDoorBun1
import Derived.Handy
import Derived.Deep.RegionHeld3
import Derived.Laws.AppendOwnNone
import Derived.Deep.RegionWith
import Derived.Deep.Cut
import Derived.Deep.CutRange
namespace Go.Proofs.YtllajhieocploaaGreatDoor.Iv
open Go.ChangeShapes Go.WideShapes Go.ChangeAt Go.RowKit
set_option linter.unusedVariables false
theorem hidIt {p : Prop} (h : p) : Hid p := h
def iat (L : List Int) (i : Nat) : Int := L.getD i 0
theorem iat_at {L : List Int} {i : Nat} (h : i < L.length) : iat L i = L[i] := by
  unfold iat
  rw [List.getD_eq_getElem?_getD, List.getElem?_eq_getElem h]
  rfl
abbrev icells (L : List Int) : List Value := L.map (Value.int .i64)
theorem icells_at {L : List Int} {i : Nat} (h : i < L.length) : (icells L)[i]? = some (.int .i64 (iat L i)) := by
  rw [iat_at h, List.getElem?_map, List.getElem?_eq_getElem h]
  rfl
theorem icells_one (L : List Int) : ∀ u ∈ icells L, u.oneCell' = true := by
  intro u hu
  obtain ⟨s, _, rfl⟩ := List.mem_map.1 hu
  rfl
/-- A slice at address a reads as the list L. -/
structure Rd (w : World) (a : Option Addr) (L : List Int) : Prop where
  cell : ∀ i, i < L.length → ∃ b off, a = some ⟨b, off, none⟩ ∧ w.cell? ⟨b, off + i, none⟩ = some (.int .i64 (iat L i))
theorem cell_block {w : World} {b o : Nat} {v : Value} (h : w.cell? ⟨b, o, none⟩ = some v) : b < w.heap.size := World.block_lt_of_cell? w ⟨b, o, none⟩ h
theorem Rd.kept {w w' : World} {a : Option Addr} {L : List Int} (h : Rd w a L) (k : Below w.heap.size w w') : Rd w' a L :=
  ⟨fun i hi => by
    obtain ⟨b, off, e, c0⟩ := h.cell i hi
    exact ⟨b, off, e, by rw [k.cell (by simpa using cell_block c0)]; exact c0⟩⟩
theorem Rd.alloc {w : World} {a : Option Addr} {L : List Int} (h : Rd w a L) (o : Obj) : Rd (w.alloc o) a L := h.kept ((Below.refl _ _).alloc (Nat.le_refl _) o)
theorem Rd.drew {w : World} {a : Option Addr} {L : List Int} (h : Rd w a L) : Rd w.drew a L := ⟨h.cell⟩
theorem Rd.nil (w : World) (a : Option Addr) : Rd w a [] := ⟨fun i hi => by simp at hi⟩
/-- The slice v owns the numbers L in a row of the call's own. -/
def Own (w : World) (base : Nat) (v : Value) (L : List Int) : Prop := w.ownsRow base 2 1 v L.length (icells L)
theorem Own.form {w : World} {base : Nat} {v : Value} {L : List Int} (h : Own w base v L) : ∃ a cap, v = .slice a L.length cap ∧ L.length ≤ cap ∧ cap ≤ maxLen ∧ Rd w a L ∧ (a = none → cap = 0) ∧ (∀ x, a = some x → ∃ g, x = ⟨g, 0, none⟩ ∧ base ≤ g ∧ g < w.heap.size) := by
  have h' := h
  rcases h.2 with ⟨rfl, h0⟩ | ⟨g, cap, cur, rfl, hb, hg, hn, hm, rest⟩
  · exact ⟨none, 0, by rw [h0], by omega, by decide, ⟨fun i hi => by omega⟩, fun _ => rfl, fun x hx => by cases hx⟩
  · refine ⟨some ⟨g, 0, none⟩, cap, rfl, hn, hm, ⟨fun i hi => ⟨g, 0, rfl, ?_⟩⟩, (fun e => by cases e), fun x hx => ⟨g, by cases hx; rfl, hb, (Array.getElem?_eq_some_iff.1 hg).1⟩⟩
    rw [Nat.zero_add, World.ownsRow.cellAt h' _ (by omega), icells_at hi]
theorem Own.kept {w w' : World} {base : Nat} {v : Value} {L : List Int} (h : Own w base v L) (k : Below w.heap.size w w') : Own w' base v L :=
  World.ownsRow.kept (row := none) h ⟨k.os, k.tape, k.output, k.size, fun i hi _ => k.block i hi⟩ (by cases v.ownBlock <;> simp)
theorem Own.alloc {w : World} {base : Nat} {v : Value} {L : List Int} (h : Own w base v L) (o : Obj) : Own (w.alloc o) base v L := World.ownsRow.alloc h o
theorem Own.drewN {w : World} {base : Nat} {v : Value} {L : List Int} (h : Own w base v L) (n : Nat) : Own (w.drewN n) base v L := h.kept ⟨rfl, rfl, rfl, Nat.le_refl _, fun _ _ => rfl⟩
theorem Own.only {w w' : World} {base c : Nat} {v : Value} {L : List Int} (h : Own w base v L) (k : Only c w w') (hc : c < base ∨ ∀ g, v.ownBlock = some g → g ≠ c) : Own w' base v L := by
  refine World.ownsRow.kept h (row := some c) ⟨k.os, k.tape, k.output, k.size, fun i hi hne => k.block i hi (fun e => hne (by rw [e]))⟩ ?_
  cases hv : v.ownBlock with
  | none => exact .inl rfl
  | some g =>
    refine .inr (fun e => ?_)
    cases e
    rcases hc with hc | hc
    · have := (World.ownsRow.lt h _ hv).1; omega
    · exact hc _ hv rfl
theorem Own.mono {w : World} {base b' : Nat} {v : Value} {L : List Int} (h : Own w base v L) (hb : b' ≤ base) : Own w b' v L := by
  refine ⟨h.1, ?_⟩
  rcases h.2 with h0 | ⟨g, cap, cur, e, hb', r⟩
  · exact .inl h0
  · exact .inr ⟨g, cap, cur, e, by omega, r⟩
theorem Own.new (w : World) : Own (w.alloc (.cells #[] 2)) w.heap.size (.slice (some ⟨w.heap.size, 0, none⟩) 0 0) [] :=
  World.ownsRow_made w #[] 0 (Nat.le_refl _) (by decide) rfl
theorem Own.more {w : World} {base : Nat} {v : Value} {L : List Int} {s : Int} (h : w.ownsRow base 2 1 v (L.length + 1) (icells L ++ [.int .i64 s])) : Own w base v (L ++ [s]) := by
  unfold Own
  rw [List.length_append, icells, List.map_append]
  exact h
theorem Own.free {w : World} {base g n cap : Nat} {L : List Int} (h : Own w base (.slice (some ⟨g, 0, none⟩) n cap) L) (j : Nat) : w.frozen? ⟨g, j, none⟩ = false := by
  obtain ⟨a, c', e, _⟩ := h.form
  cases e
  exact World.ownsRow.frozenAt h j
theorem Own.at {w : World} {base g n cap i : Nat} {L : List Int} (h : Own w base (.slice (some ⟨g, 0, none⟩) n cap) L) (hi : i < L.length) :
    w.cell? ⟨g, i, none⟩ = some (.int .i64 (iat L i)) ∧ w.frozen? ⟨g, i, none⟩ = false := by
  obtain ⟨a', c', e1, _, _, r, _⟩ := h.form
  cases e1
  obtain ⟨b', o', e2, k0⟩ := r.cell i hi
  cases e2
  exact ⟨by simpa using k0, h.free _⟩
theorem grown_below {w w' : World} {base B : Nat} {v : Value} {L : List Int} (h : Own w base v L) (g : w.grownBy w' v.ownBlock) (hB : B ≤ base) (hs : B ≤ w.heap.size) : Below B w w' :=
  ⟨g.os, g.tape, g.output, g.size, fun k hk => g.block k (by omega) (fun e => by have := (World.ownsRow.lt h k e.symm).1; omega)⟩
theorem Own.set {w : World} {base g n cap i : Nat} {L : List Int} (h : Own w base (.slice (some ⟨g, 0, none⟩) n cap) L) (s : Int) :
    Own (w.setCell ⟨g, i, none⟩ (.int .i64 s)) base (.slice (some ⟨g, 0, none⟩) n cap) (L.set i s) := by
  obtain ⟨a, c', e, _⟩ := h.form
  cases e
  have := (World.ownsRow.stored h i (.int .i64 s)).1
  unfold Own
  rw [List.length_set, icells, List.map_set]
  exact this
theorem ext_iat {L M : List Int} (hl : L.length = M.length) (h : ∀ i, i < L.length → iat L i = iat M i) : L = M := by
  apply List.ext_getElem hl
  intro i h1 h2
  have := h i h1
  rwa [iat_at h1, iat_at h2] at this
theorem iat_set {L : List Int} {i j : Nat} {x : Int} (h : i < L.length) : iat (L.set i x) j = if i = j then x else iat L j := by
  unfold iat
  rw [List.getD_eq_getElem?_getD, List.getD_eq_getElem?_getD, List.getElem?_set]
  by_cases e : i = j
  · subst e; simp [h]
  · simp [e]
/-- The slice at a, of capacity cap, that came in reads as L. -/
structure In (w : World) (a : Option Addr) (cap : Nat) (L : List Int) : Prop where
  rd : Rd w a L
  le : L.length ≤ cap
  cap : cap ≤ 9223372036854775807
theorem iat_take {zs : List Int} {n i : Nat} (h : i < n) : iat (zs.take n) i = iat zs i := by
  unfold iat
  rw [List.getD_eq_getElem?_getD, List.getD_eq_getElem?_getD, List.getElem?_take, if_pos h]
end Go.Proofs.YtllajhieocploaaGreatDoor.Iv
namespace Go.Proofs.YtllajhieocploaaGreatDoor.Mk
set_option linter.unusedVariables false
abbrev Bytes := List UInt8
structure En where
  key : Int
  value : Bytes
  time : Int
  node : Int
  gone : Bool
  deriving DecidableEq
def okE (e : En) : Bool := decide (0 ≤ e.key) && decide (e.key ≤ 7) && decide (0 ≤ e.time) && decide (e.time ≤ 1000000) && decide (0 ≤ e.node) && decide (e.node ≤ 2)
def newB (a b : En) : Bool :=
  if a.time ≠ b.time then decide (b.time < a.time)
  else if a.node ≠ b.node then decide (b.node < a.node)
  else if a.gone ≠ b.gone then a.gone
  else decide (b.value < a.value)
theorem newB_1 {a b : En} (h : a.time ≠ b.time) : newB a b = decide (b.time < a.time) := by unfold newB; rw [if_pos h]
theorem newB_2 {a b : En} (h : a.time = b.time) (k : a.node ≠ b.node) : newB a b = decide (b.node < a.node) := by unfold newB; rw [if_neg (by simp [h]), if_pos k]
theorem newB_3 {a b : En} (h : a.time = b.time) (k : a.node = b.node) (g : a.gone ≠ b.gone) : newB a b = a.gone := by unfold newB; rw [if_neg (by simp [h]), if_neg (by simp [k]), if_pos g]
theorem newB_4 {a b : En} (h : a.time = b.time) (k : a.node = b.node) (g : a.gone = b.gone) : newB a b = decide (b.value < a.value) := by unfold newB; rw [if_neg (by simp [h]), if_neg (by simp [k]), if_neg (by simp [g])]
theorem lt_total {a b : Bytes} (h : ¬ a < b) (k : ¬ b < a) : a = b := List.le_antisymm k h
theorem new_irrefl (a : En) : newB a a = false := by
  unfold newB
  simp [List.lt_irrefl]
theorem new_asymm {a b : En} (h : newB a b = true) : newB b a = false := by
  unfold newB at h ⊢
  by_cases h1 : a.time = b.time
  · rw [if_neg (by simp [h1])] at h
    rw [if_neg (by simp [h1])]
    by_cases h2 : a.node = b.node
    · rw [if_neg (by simp [h2])] at h
      rw [if_neg (by simp [h2])]
      by_cases h3 : a.gone = b.gone
      · rw [if_neg (by simp [h3])] at h
        rw [if_neg (by simp [h3])]
        exact decide_eq_false (fun k => List.lt_irrefl _ (List.lt_trans k (of_decide_eq_true h)))
      · rw [if_pos h3] at h
        rw [if_pos (fun e => h3 e.symm)]
        cases hb : b.gone
        · rfl
        · rw [h, hb] at h3; exact absurd rfl h3
    · rw [if_pos h2] at h
      rw [if_pos (fun e => h2 e.symm)]
      have := of_decide_eq_true h
      exact decide_eq_false (by omega)
  · rw [if_pos h1] at h
    rw [if_pos (fun e => h1 e.symm)]
    have := of_decide_eq_true h
    exact decide_eq_false (by omega)
/-- Of two Entries of which none is Newer all is alike but the Key. -/
theorem new_total {a b : En} (h : newB a b = false) (k : newB b a = false) : a.time = b.time ∧ a.node = b.node ∧ a.gone = b.gone ∧ a.value = b.value := by
  unfold newB at h k
  by_cases h1 : a.time = b.time
  · rw [if_neg (by simp [h1])] at h
    rw [if_neg (by simp [h1])] at k
    by_cases h2 : a.node = b.node
    · rw [if_neg (by simp [h2])] at h
      rw [if_neg (by simp [h2])] at k
      by_cases h3 : a.gone = b.gone
      · rw [if_neg (by simp [h3])] at h
        rw [if_neg (by simp [h3])] at k
        exact ⟨h1, h2, h3, lt_total (of_decide_eq_false k) (of_decide_eq_false h)⟩
      · rw [if_pos h3] at h
        rw [if_pos (fun e => h3 e.symm)] at k
        exact absurd (h.trans k.symm) h3
    · rw [if_pos h2] at h
      rw [if_pos (fun e => h2 e.symm)] at k
      have h' := of_decide_eq_false h
      have k' := of_decide_eq_false k
      exact absurd (by omega) h2
  · rw [if_pos h1] at h
    rw [if_pos (fun e => h1 e.symm)] at k
    have h' := of_decide_eq_false h
    have k' := of_decide_eq_false k
    exact absurd (by omega) h1
theorem new_trans {a b c : En} (h : newB a b = true) (k : newB b c = true) : newB a c = true := by
  unfold newB at h k ⊢
  by_cases t1 : a.time = b.time
  · rw [if_neg (by simp [t1])] at h
    by_cases t2 : b.time = c.time
    · rw [if_neg (by simp [t2])] at k
      rw [if_neg (by simp [t1, t2])]
      by_cases n1 : a.node = b.node
      · rw [if_neg (by simp [n1])] at h
        by_cases n2 : b.node = c.node
        · rw [if_neg (by simp [n2])] at k
          rw [if_neg (by simp [n1, n2])]
          by_cases g1 : a.gone = b.gone
          · rw [if_neg (by simp [g1])] at h
            by_cases g2 : b.gone = c.gone
            · rw [if_neg (by simp [g2])] at k
              rw [if_neg (by simp [g1, g2])]
              exact decide_eq_true (List.lt_trans (of_decide_eq_true k) (of_decide_eq_true h))
            · rw [if_pos g2] at k
              rw [if_pos (by rw [g1]; exact g2), g1]
              exact k
          · rw [if_pos g1] at h
            by_cases g2 : b.gone = c.gone
            · rw [if_pos (by rw [← g2]; exact g1)]
              exact h
            · rw [if_pos g2] at k
              exact absurd (h.trans k.symm) g1
        · rw [if_pos n2] at k
          rw [if_pos (by rw [n1]; exact n2), n1]
          exact k
      · rw [if_pos n1] at h
        have h' := of_decide_eq_true h
        by_cases n2 : b.node = c.node
        · rw [if_pos (by rw [← n2]; exact n1), ← n2]
          exact h
        · rw [if_pos n2] at k
          have k' := of_decide_eq_true k
          rw [if_pos (by omega)]
          exact decide_eq_true (by omega)
    · rw [if_pos t2] at k
      rw [if_pos (by rw [t1]; exact t2), t1]
      exact k
  · rw [if_pos t1] at h
    have h' := of_decide_eq_true h
    by_cases t2 : b.time = c.time
    · rw [if_pos (by rw [← t2]; exact t1), ← t2]
      exact h
    · rw [if_pos t2] at k
      have k' := of_decide_eq_true k
      rw [if_pos (by omega)]
      exact decide_eq_true (by omega)
theorem en_ext {a b : En} (hk : a.key = b.key) (h : newB a b = false) (k : newB b a = false) : a = b := by
  obtain ⟨h1, h2, h3, h4⟩ := new_total h k
  cases a
  cases b
  simp_all
/-- Keys that rise. -/
def Ris (L : List En) : Prop := L.Pairwise fun a b => a.key < b.key
def look (L : List En) (k : Int) : Option En := L.find? fun e => decide (e.key = k)
theorem look_nil (k : Int) : look [] k = none := rfl
theorem look_cons (a : En) (L : List En) (k : Int) : look (a :: L) k = if a.key = k then some a else look L k := by
  unfold look
  rw [List.find?_cons]
  by_cases h : a.key = k
  · rw [if_pos h]; simp [h]
  · rw [if_neg h]; simp [h]
theorem look_some {L : List En} {k : Int} {e : En} (h : look L k = some e) : e ∈ L ∧ e.key = k := by
  unfold look at h
  exact ⟨List.mem_of_find?_eq_some h, by simpa using List.find?_some h⟩
theorem look_none {L : List En} {k : Int} (h : look L k = none) : ∀ e ∈ L, e.key ≠ k := by
  unfold look at h
  intro e he
  have := List.find?_eq_none.1 h e he
  simpa using this
theorem look_none_of {L : List En} {k : Int} (h : ∀ e ∈ L, e.key ≠ k) : look L k = none := by
  unfold look
  exact List.find?_eq_none.2 (fun e he => by simpa using h e he)
theorem ris_cons {a : En} {L : List En} : Ris (a :: L) ↔ (∀ b ∈ L, a.key < b.key) ∧ Ris L := List.pairwise_cons
theorem look_mem {L : List En} (h : Ris L) {e : En} (he : e ∈ L) : look L e.key = some e := by
  induction L with
  | nil => cases he
  | cons a L ih =>
    obtain ⟨h1, h2⟩ := ris_cons.1 h
    rw [look_cons]
    rcases List.mem_cons.1 he with rfl | he
    · rw [if_pos rfl]
    · rw [if_neg (fun e' => Int.lt_irrefl _ (by have := h1 e he; rw [e'] at this; exact this))]
      exact ih h2 he
/-- Two books in which the same is found are one. -/
theorem ris_ext {L M : List En} (hL : Ris L) (hM : Ris M) (h : ∀ k, look L k = look M k) : L = M := by
  induction L generalizing M with
  | nil =>
    cases M with
    | nil => rfl
    | cons b M => have := h b.key; rw [look_nil, look_cons, if_pos rfl] at this; cases this
  | cons a L ih =>
    cases M with
    | nil => have := h a.key; rw [look_nil, look_cons, if_pos rfl] at this; cases this
    | cons b M =>
      obtain ⟨a1, a2⟩ := ris_cons.1 hL
      obtain ⟨b1, b2⟩ := ris_cons.1 hM
      have ea := h a.key
      have eb := h b.key
      rw [look_cons, if_pos rfl] at ea
      rw [look_cons b, if_pos rfl] at eb
      have hab : a = b := by
        obtain ⟨ma, _⟩ := look_some ea.symm
        obtain ⟨mb, _⟩ := look_some eb
        rcases List.mem_cons.1 ma with e | ma
        · exact e
        · rcases List.mem_cons.1 mb with e | mb
          · exact e.symm
          · exact absurd (Int.lt_trans (a1 b mb) (b1 a ma)) (Int.lt_irrefl _)
      subst hab
      rw [ih a2 b2 (fun k => ?_)]
      have hk := h k
      rw [look_cons, look_cons] at hk
      by_cases e : a.key = k
      · rw [look_none_of (fun x hx => by intro e'; have := a1 x hx; rw [e', e] at this; exact Int.lt_irrefl _ this), look_none_of (fun x hx => by intro e'; have := b1 x hx; rw [e', e] at this; exact Int.lt_irrefl _ this)]
      · rw [if_neg e, if_neg e] at hk
        exact hk
/-- Of two that may be there the one than which the other is not Newer. -/
def pickE : Option En → Option En → Option En
  | none, y => y
  | some x, none => some x
  | some x, some y => some (if newB y x then y else x)
/-- J is what A and B come to. -/
structure IsJoin (A B J : List En) : Prop where
  ris : Ris J
  at' : ∀ k, look J k = pickE (look A k) (look B k)
theorem IsJoin.unique {A B J K : List En} (h : IsJoin A B J) (k : IsJoin A B K) : J = K := ris_ext h.ris k.ris (fun x => (h.at' x).trans (k.at' x).symm)
/-- What two books come to, one way to reckon it. -/
def mergeE : List En → List En → List En
  | [], B => B
  | a :: A, [] => a :: A
  | a :: A, b :: B => if a.key < b.key then a :: mergeE A (b :: B) else if b.key < a.key then b :: mergeE (a :: A) B else (if newB b a then b else a) :: mergeE A B
  termination_by A B => A.length + B.length
theorem mergeE_nil (B : List En) : mergeE [] B = B := by unfold mergeE; rfl
theorem mergeE_right (A : List En) : mergeE A [] = A := by
  cases A with
  | nil => exact mergeE_nil []
  | cons a A => unfold mergeE; rfl
theorem mergeE_cons (a b : En) (A B : List En) : mergeE (a :: A) (b :: B) = if a.key < b.key then a :: mergeE A (b :: B) else if b.key < a.key then b :: mergeE (a :: A) B else (if newB b a then b else a) :: mergeE A B := by
  conv => lhs; unfold mergeE
theorem pick_none_right (x : Option En) : pickE x none = x := by cases x <;> rfl
theorem merge_mem : ∀ (A B : List En) {e : En}, e ∈ mergeE A B → e ∈ A ∨ e ∈ B
  | [], B, e, h => by rw [mergeE_nil] at h; exact .inr h
  | a :: A, [], e, h => by rw [mergeE_right] at h; exact .inl h
  | a :: A, b :: B, e, h => by
    rw [mergeE_cons] at h
    by_cases h1 : a.key < b.key
    · rw [if_pos h1] at h
      rcases List.mem_cons.1 h with rfl | h
      · exact .inl (List.mem_cons_self ..)
      · rcases merge_mem A (b :: B) h with h | h
        · exact .inl (List.mem_cons_of_mem _ h)
        · exact .inr h
    · rw [if_neg h1] at h
      by_cases h2 : b.key < a.key
      · rw [if_pos h2] at h
        rcases List.mem_cons.1 h with rfl | h
        · exact .inr (List.mem_cons_self ..)
        · rcases merge_mem (a :: A) B h with h | h
          · exact .inl h
          · exact .inr (List.mem_cons_of_mem _ h)
      · rw [if_neg h2] at h
        rcases List.mem_cons.1 h with h | h
        · cases hn : newB b a
          · rw [hn] at h; exact .inl (by rw [h]; exact List.mem_cons_self ..)
          · rw [hn] at h; exact .inr (by rw [h]; exact List.mem_cons_self ..)
        · rcases merge_mem A B h with h | h
          · exact .inl (List.mem_cons_of_mem _ h)
          · exact .inr (List.mem_cons_of_mem _ h)
  termination_by A B => A.length + B.length
theorem merge_join : ∀ (A B : List En), Ris A → Ris B → IsJoin A B (mergeE A B)
  | [], B, _, hB => by rw [mergeE_nil]; exact ⟨hB, fun k => rfl⟩
  | a :: A, [], hA, _ => by rw [mergeE_right]; exact ⟨hA, fun k => by rw [look_nil, pick_none_right]⟩
  | a :: A, b :: B, hA, hB => by
    obtain ⟨a1, a2⟩ := ris_cons.1 hA
    obtain ⟨b1, b2⟩ := ris_cons.1 hB
    have noA : ∀ k, a.key = k → look A k = none := fun k e => look_none_of (fun x hx e' => by have := a1 x hx; rw [e', e] at this; exact Int.lt_irrefl _ this)
    have noB : ∀ k, b.key = k → look B k = none := fun k e => look_none_of (fun x hx e' => by have := b1 x hx; rw [e', e] at this; exact Int.lt_irrefl _ this)
    rw [mergeE_cons]
    by_cases h1 : a.key < b.key
    · rw [if_pos h1]
      have ih := merge_join A (b :: B) a2 hB
      refine ⟨ris_cons.2 ⟨fun x hx => ?_, ih.ris⟩, fun k => ?_⟩
      · rcases merge_mem A (b :: B) hx with h | h
        · exact a1 x h
        · rcases List.mem_cons.1 h with rfl | h
          · exact h1
          · exact Int.lt_trans h1 (b1 x h)
      · rw [look_cons, look_cons a, ih.at']
        by_cases e : a.key = k
        · rw [if_pos e, if_pos e, look_none_of (fun x hx e' => ?_), pick_none_right]
          rcases List.mem_cons.1 hx with rfl | h
          · rw [e', e] at h1; exact Int.lt_irrefl _ h1
          · have := Int.lt_trans h1 (b1 x h); rw [e', e] at this; exact Int.lt_irrefl _ this
        · rw [if_neg e, if_neg e]
    · rw [if_neg h1]
      by_cases h2 : b.key < a.key
      · rw [if_pos h2]
        have ih := merge_join (a :: A) B hA b2
        refine ⟨ris_cons.2 ⟨fun x hx => ?_, ih.ris⟩, fun k => ?_⟩
        · rcases merge_mem (a :: A) B hx with h | h
          · rcases List.mem_cons.1 h with rfl | h
            · exact h2
            · exact Int.lt_trans h2 (a1 x h)
          · exact b1 x h
        · rw [look_cons, look_cons b B, ih.at']
          by_cases e : b.key = k
          · rw [if_pos e, if_pos e, look_none_of (L := a :: A) (fun x hx e' => ?_)]
            · rfl
            · rcases List.mem_cons.1 hx with rfl | h
              · rw [e', e] at h2; exact Int.lt_irrefl _ h2
              · have := Int.lt_trans h2 (a1 x h); rw [e', e] at this; exact Int.lt_irrefl _ this
          · rw [if_neg e, if_neg e]
      · rw [if_neg h2]
        have hk : a.key = b.key := Int.le_antisymm (Int.not_lt.1 h2) (Int.not_lt.1 h1)
        have ih := merge_join A B a2 b2
        have kk : (if newB b a = true then b else a).key = a.key := by split <;> simp [hk]
        refine ⟨ris_cons.2 ⟨fun x hx => ?_, ih.ris⟩, fun k => ?_⟩
        · rw [kk]
          rcases merge_mem A B hx with h | h
          · exact a1 x h
          · rw [hk]; exact b1 x h
        · rw [look_cons, look_cons a A, look_cons b B, ih.at', kk]
          by_cases e : a.key = k
          · rw [if_pos e, if_pos e, if_pos (show b.key = k from hk.symm.trans e)]
            rfl
          · rw [if_neg e, if_neg e, if_neg (fun e' => e (hk.trans e'))]
  termination_by A B => A.length + B.length
theorem merge_length : ∀ (A B : List En), (mergeE A B).length ≤ A.length + B.length
  | [], B => by rw [mergeE_nil]; simp
  | a :: A, [] => by rw [mergeE_right]; simp
  | a :: A, b :: B => by
    rw [mergeE_cons]
    split
    · have := merge_length A (b :: B); simp at this ⊢; omega
    · split
      · have := merge_length (a :: A) B; simp at this ⊢; omega
      · have := merge_length A B; simp at this ⊢; omega
  termination_by A B => A.length + B.length
/-- What may be there lies under the Key k. -/
def KeyAt (k : Int) (o : Option En) : Prop := ∀ e, o = some e → e.key = k
theorem look_at (L : List En) (k : Int) : KeyAt k (look L k) := fun e h => (look_some h).2
theorem pick_at {k : Int} {x y : Option En} (hx : KeyAt k x) (hy : KeyAt k y) : KeyAt k (pickE x y) := by
  intro e h
  cases x with
  | none => exact hy e h
  | some a =>
    cases y with
    | none => exact hx e h
    | some b =>
      have h' := Option.some.inj h
      cases hn : newB b a with
      | true => rw [hn, if_pos rfl] at h'; rw [← h']; exact hy b rfl
      | false => rw [hn, if_neg (by decide)] at h'; rw [← h']; exact hx a rfl
theorem pick_comm {k : Int} {x y : Option En} (hx : KeyAt k x) (hy : KeyAt k y) : pickE x y = pickE y x := by
  cases x with
  | none => rw [pick_none_right]; rfl
  | some a =>
    cases y with
    | none => rfl
    | some b =>
      show some _ = some _
      cases h1 : newB b a with
      | true => rw [new_asymm h1]; simp
      | false =>
        cases h2 : newB a b with
        | true => simp
        | false => simp [en_ext ((hx a rfl).trans (hy b rfl).symm) h2 h1]
theorem pick_self (x : Option En) : pickE x x = x := by
  cases x with
  | none => rfl
  | some a => show some _ = some _; rw [new_irrefl]; simp
/-- The Newer of two, as an order: none is Newer. -/
theorem not_new_trans {a b c : En} (hk : a.key = b.key) (h : newB a b = false) (k : newB b c = false) : newB a c = false := by
  cases hac : newB a c with
  | false => rfl
  | true =>
    cases hba : newB b a with
    | true => exact absurd (new_trans hba hac) (by rw [k]; decide)
    | false => rw [en_ext hk h hba] at hac; rw [hac] at k; cases k
theorem pick_assoc {k : Int} {x y z : Option En} (hx : KeyAt k x) (hy : KeyAt k y) (hz : KeyAt k z) : pickE (pickE x y) z = pickE x (pickE y z) := by
  cases x with
  | none => rfl
  | some a =>
    cases y with
    | none => rfl
    | some b =>
      cases z with
      | none => rfl
      | some c =>
        have ka := hx a rfl
        have kb := hy b rfl
        have kc := hz c rfl
        cases h1 : newB b a with
        | true =>
          cases h2 : newB c b with
          | true => simp [pickE, h1, h2, new_trans h2 h1]
          | false => simp [pickE, h1, h2]
        | false =>
          cases h2 : newB c b with
          | true => simp [pickE, h1, h2]
          | false => simp [pickE, h1, h2, not_new_trans (kc.trans kb.symm) h2 h1]
theorem IsJoin.comm {A B J : List En} (h : IsJoin A B J) : IsJoin B A J := ⟨h.ris, fun k => (h.at' k).trans (pick_comm (look_at A k) (look_at B k))⟩
theorem IsJoin.own {A : List En} (h : Ris A) : IsJoin A A A := ⟨h, fun k => (pick_self _).symm⟩
theorem IsJoin.again {A B J : List En} (h : IsJoin A B J) : IsJoin J A J :=
  ⟨h.ris, fun k => by rw [h.at', pick_comm (look_at A k) (look_at B k), pick_assoc (look_at B k) (look_at A k) (look_at A k), pick_self]⟩
theorem IsJoin.assoc {A B C J K L M : List En} (h1 : IsJoin A B J) (h2 : IsJoin B C K) (h3 : IsJoin J C L) (h4 : IsJoin A K M) : L = M :=
  ris_ext h3.ris h4.ris (fun k => by rw [h3.at', h1.at', h4.at', h2.at', pick_assoc (look_at A k) (look_at B k) (look_at C k)])
theorem IsJoin.mem {A B J : List En} (h : IsJoin A B J) {e : En} (he : e ∈ J) : e ∈ A ∨ e ∈ B := by
  have hl := (look_mem h.ris he).symm.trans (h.at' e.key)
  cases hA : look A e.key with
  | none => rw [hA] at hl; exact .inr (look_some (k := e.key) hl.symm).1
  | some a =>
    cases hB : look B e.key with
    | none => rw [hA, hB] at hl; exact .inl (by rw [Option.some.inj hl]; exact (look_some hA).1)
    | some b =>
      rw [hA, hB] at hl
      have h' := Option.some.inj hl
      cases hn : newB b a with
      | true => rw [hn, if_pos rfl] at h'; rw [h']; exact .inr (look_some hB).1
      | false => rw [hn, if_neg (by decide)] at h'; rw [h']; exact .inl (look_some hA).1
/-- A book: at most 80 Entries that are right, Key rising. -/
def risB : List En → Bool
  | [] => true
  | [_] => true
  | a :: b :: L => decide (a.key < b.key) && risB (b :: L)
theorem risB_iff : ∀ L : List En, risB L = true ↔ Ris L
  | [] => by simp [risB, Ris]
  | [a] => by simp [risB, Ris]
  | a :: b :: L => by
    unfold risB
    rw [Bool.and_eq_true, decide_eq_true_eq, risB_iff (b :: L), ris_cons (a := a)]
    refine ⟨fun ⟨h1, h2⟩ => ⟨fun x hx => ?_, h2⟩, fun ⟨h1, h2⟩ => ⟨h1 b (List.mem_cons_self ..), h2⟩⟩
    rcases List.mem_cons.1 hx with rfl | hx
    · exact h1
    · exact Int.lt_trans h1 ((ris_cons.1 h2).1 x hx)
def okBk (L : List En) : Bool := decide (L.length ≤ 8) && L.all okE && risB L
theorem ok_ris {L : List En} (h : okBk L = true) : Ris L := by
  unfold okBk at h
  simp only [Bool.and_eq_true] at h
  exact (risB_iff L).1 h.2
theorem ok_len {L : List En} (h : okBk L = true) : L.length ≤ 8 := by
  unfold okBk at h
  simp only [Bool.and_eq_true, decide_eq_true_eq] at h
  exact h.1.1
theorem ok_all {L : List En} (h : okBk L = true) {e : En} (he : e ∈ L) : okE e = true := by
  unfold okBk at h
  simp only [Bool.and_eq_true, List.all_eq_true] at h
  exact h.1.2 e he
theorem ok_mk {L : List En} (h1 : L.length ≤ 8) (h2 : ∀ e ∈ L, okE e = true) (h3 : Ris L) : okBk L = true := by
  unfold okBk
  simp only [Bool.and_eq_true, decide_eq_true_eq, List.all_eq_true]
  exact ⟨⟨h1, h2⟩, (risB_iff L).2 h3⟩
/-- What Joined answers. -/
def joinB (A B : List En) : List En × Bool := if okBk A = true ∧ okBk B = true ∧ (mergeE A B).length ≤ 8 then (mergeE A B, true) else ([], false)
theorem join_ok {A B : List En} (h : (joinB A B).2 = true) : okBk A = true ∧ okBk B = true ∧ okBk (joinB A B).1 = true ∧ IsJoin A B (joinB A B).1 := by
  unfold joinB at h ⊢
  by_cases hc : okBk A = true ∧ okBk B = true ∧ (mergeE A B).length ≤ 8
  · rw [if_pos hc]
    have j := merge_join A B (ok_ris hc.1) (ok_ris hc.2.1)
    exact ⟨hc.1, hc.2.1, ok_mk hc.2.2 (fun e he => by rcases merge_mem A B he with h | h; exact ok_all hc.1 h; exact ok_all hc.2.1 h) j.ris, j⟩
  · rw [if_neg hc] at h; cases h
theorem join_no {A B : List En} (h : (joinB A B).2 = false) : (joinB A B).1 = [] := by
  unfold joinB at h ⊢
  by_cases hc : okBk A = true ∧ okBk B = true ∧ (mergeE A B).length ≤ 8
  · rw [if_pos hc] at h; cases h
  · rw [if_neg hc]
theorem joinB_len (A B : List En) : (joinB A B).1.length ≤ 8 := by
  unfold joinB
  by_cases hc : okBk A = true ∧ okBk B = true ∧ (mergeE A B).length ≤ 8
  · rw [if_pos hc]; exact hc.2.2
  · rw [if_neg hc]; simp
/-- Whoever shows what two books come to has what Joined answers. -/
theorem join_of {A B J : List En} (hA : okBk A = true) (hB : okBk B = true) (h : IsJoin A B J) : joinB A B = if J.length ≤ 8 then (J, true) else ([], false) := by
  have e : mergeE A B = J := (merge_join A B (ok_ris hA) (ok_ris hB)).unique h
  unfold joinB
  rw [e]
  by_cases hl : J.length ≤ 8
  · rw [if_pos ⟨hA, hB, hl⟩, if_pos hl]
  · rw [if_neg (fun h => hl h.2.2), if_neg hl]
end Go.Proofs.YtllajhieocploaaGreatDoor.Mk
namespace Go.Proofs.YtllajhieocploaaGreatDoor.Mm
open Go.ChangeShapes Go.WideShapes Go.ChangeAt Go.RowKit
open Go.Proofs.YtllajhieocploaaGreatDoor.Rc (BelowBy BelowBy.one wp_region_below calls_below calls_same)
open Go.Proofs.YtllajhieocploaaGreatDoor.Mk (okE newB okBk look Ris)
set_option linter.unusedVariables false
def toE (x : Rw) : Mk.En := ⟨x.1, [], x.2.1, x.2.2, false⟩
theorem toE_inj {x y : Rw} (h : toE x = toE y) : x = y := by
  obtain ⟨a, b, c⟩ := x
  obtain ⟨a', b', c'⟩ := y
  simp only [toE, Mk.En.mk.injEq] at h
  obtain ⟨rfl, _, rfl, rfl, _⟩ := h
  rfl
abbrev toB (L : List Rw) : List Mk.En := L.map toE
theorem toB_inj {L M : List Rw} (h : toB L = toB M) : L = M := by
  induction L generalizing M with
  | nil => cases M with
    | nil => rfl
    | cons y M => cases h
  | cons x L ih => cases M with
    | nil => cases h
    | cons y M =>
      simp only [toB, List.map_cons, List.cons.injEq] at h
      rw [toE_inj h.1, ih h.2]
abbrev kat (L : List Rw) (i : Nat) : Int := (rat L i).1
theorem new_str (x y : Rw) : newB (toE x) (toE y) = (decide (y.2.1 < x.2.1) || (decide (x.2.1 = y.2.1) && decide (y.2.2 < x.2.2))) := by
  obtain ⟨a, b, c⟩ := x
  obtain ⟨a', b', c'⟩ := y
  unfold newB toE
  simp only
  by_cases h : b = b'
  · subst h
    rw [if_neg (by simp)]
    by_cases k : c = c'
    · subst k; simp
    · rw [if_pos k]; simp
  · rw [if_pos h]
    simp [h]
theorem ris_of {L : List Rw} (h : ∀ i, i + 1 < L.length → kat L i < kat L (i + 1)) : Ris (toB L) := by
  unfold Ris
  rw [List.pairwise_iff_getElem]
  have far : ∀ d i, i + d + 1 < L.length → kat L i < kat L (i + d + 1) := by
    intro d
    induction d with
    | zero => intro i hi; exact h i hi
    | succ d ih => intro i hi; exact Int.lt_trans (ih i (by omega)) (h (i + d + 1) hi)
  intro i j hi hj hij
  rw [List.length_map] at hi hj
  have := far (j - i - 1) i (by omega)
  rw [show i + (j - i - 1) + 1 = j by omega] at this
  unfold kat at this
  rw [rat_at hi, rat_at hj] at this
  rw [List.getElem_map, List.getElem_map]
  exact this
theorem ris_to {L : List Rw} (h : Ris (toB L)) (i : Nat) (hi : i + 1 < L.length) : kat L i < kat L (i + 1) := by
  unfold Ris at h
  rw [List.pairwise_iff_getElem] at h
  have := h i (i + 1) (by rw [List.length_map]; omega) (by rw [List.length_map]; exact hi) (by omega)
  rw [List.getElem_map, List.getElem_map] at this
  unfold kat
  rw [rat_at (by omega), rat_at hi]
  exact this
theorem book_yes {L : List Rw} (h1 : L.length ≤ 8) (h2 : ∀ i, i < L.length → okE (toE (rat L i)) = true) (h3 : ∀ i, i + 1 < L.length → kat L i < kat L (i + 1)) : okBk (toB L) = true := by
  refine Mk.ok_mk (by rw [List.length_map]; exact h1) (fun e he => ?_) (ris_of h3)
  obtain ⟨x, hx, rfl⟩ := List.mem_map.1 he
  obtain ⟨i, hi, rfl⟩ := List.mem_iff_getElem.1 hx
  have := h2 i hi
  rwa [rat_at hi] at this
theorem book_no1 {L : List Rw} (h : ¬ L.length ≤ 8) : okBk (toB L) = false := by
  cases e : okBk (toB L) with
  | false => rfl
  | true => exact absurd (by have := Mk.ok_len e; rwa [List.length_map] at this) h
theorem book_no2 {L : List Rw} {i : Nat} (hi : i < L.length) (h : okE (toE (rat L i)) = false) : okBk (toB L) = false := by
  cases e : okBk (toB L) with
  | false => rfl
  | true =>
    have := Mk.ok_all e (List.mem_map.2 ⟨_, rat_mem hi, rfl⟩)
    rw [h] at this
    cases this
theorem book_no3 {L : List Rw} {i : Nat} (hi : i + 1 < L.length) (h : ¬ kat L i < kat L (i + 1)) : okBk (toB L) = false := by
  cases e : okBk (toB L) with
  | false => rfl
  | true => exact absurd (ris_to (Mk.ok_ris e) i hi) h
end Go.Proofs.YtllajhieocploaaGreatDoor.Mm
namespace Go.Proofs.YtllajhieocploaaGreatDoor.Mk
set_option linter.unusedVariables false
theorem look_append (X Y : List En) (k : Int) : look (X ++ Y) k = (look X k).or (look Y k) := by
  unfold look
  rw [List.find?_append]
theorem join_more {A B J J' : List En} {b : En} (h : IsJoin A B J) (hb : look B b.key = none) (r : Ris J') (e : ∀ x, look J' x = if x = b.key then pickE (look J x) (some b) else look J x) : IsJoin A (B ++ [b]) J' := by
  refine ⟨r, fun x => ?_⟩
  rw [e x, h.at', look_append, look_cons, look_nil]
  by_cases hx : x = b.key
  · subst hx
    rw [if_pos rfl, if_pos rfl, hb, pick_none_right]
    rfl
  · rw [if_neg hx, if_neg (fun e => hx e.symm)]
    cases look B x <;> rfl
/-- The Key is there: the one than which the other is not Newer. -/
theorem set_ris {X Y : List En} {c b : En} (h : Ris (X ++ c :: Y)) (hk : c.key = b.key) : Ris (X ++ b :: Y) := by
  unfold Ris at h ⊢
  rw [List.pairwise_append, List.pairwise_cons] at h ⊢
  refine ⟨h.1, ⟨fun y hy => hk ▸ h.2.1.1 y hy, h.2.1.2⟩, fun x hx y hy => ?_⟩
  rcases List.mem_cons.1 hy with rfl | hy
  · rw [← hk]; exact h.2.2 x hx c (List.mem_cons_self ..)
  · exact h.2.2 x hx y (List.mem_cons_of_mem _ hy)
theorem mid_look {X Y : List En} {c : En} (h : Ris (X ++ c :: Y)) (x : Int) : look (X ++ c :: Y) x = if x = c.key then some c else look (X ++ Y) x := by
  unfold Ris at h
  rw [List.pairwise_append, List.pairwise_cons] at h
  rw [look_append, look_append, look_cons]
  by_cases hx : x = c.key
  · subst hx
    rw [if_pos rfl, if_pos rfl, look_none_of (fun e he e' => by have := h.2.2 e he c (List.mem_cons_self ..); rw [e'] at this; exact Int.lt_irrefl _ this)]
    rfl
  · rw [if_neg hx, if_neg (fun e => hx e.symm)]
theorem mid_none {X Y : List En} {c : En} (h : Ris (X ++ c :: Y)) : look (X ++ Y) c.key = none := by
  unfold Ris at h
  rw [List.pairwise_append, List.pairwise_cons] at h
  refine look_none_of (fun e he e' => ?_)
  rcases List.mem_append.1 he with he | he
  · have := h.2.2 e he c (List.mem_cons_self ..); rw [e'] at this; exact Int.lt_irrefl _ this
  · have := h.2.1.1 e he; rw [e'] at this; exact Int.lt_irrefl _ this
theorem join_set {A B X Y : List En} {c b : En} (h : IsJoin A B (X ++ c :: Y)) (hb : look B b.key = none) (hk : c.key = b.key) (hn : newB b c = true) : IsJoin A (B ++ [b]) (X ++ b :: Y) := by
  have r := set_ris h.ris hk
  refine join_more h hb r (fun x => ?_)
  rw [mid_look r, mid_look h.ris]
  by_cases hx : x = b.key
  · rw [if_pos hx, if_pos hx, if_pos (hx.trans hk.symm)]
    show _ = some (if newB b c = true then b else c)
    rw [if_pos hn]
  · rw [if_neg hx, if_neg hx, if_neg (fun e => hx (e.trans hk))]
theorem join_keep {A B X Y : List En} {c b : En} (h : IsJoin A B (X ++ c :: Y)) (hb : look B b.key = none) (hk : c.key = b.key) (hn : newB b c = false) : IsJoin A (B ++ [b]) (X ++ c :: Y) := by
  refine join_more h hb h.ris (fun x => ?_)
  rw [mid_look h.ris]
  by_cases hx : x = b.key
  · rw [if_pos (hx.trans hk.symm), if_pos hx]
    show _ = some (if newB b c = true then b else c)
    rw [hn, if_neg (by decide)]
  · rw [if_neg (fun e => hx (e.trans hk)), if_neg hx]
theorem join_ins {A B X Y : List En} {b : En} (h : IsJoin A B (X ++ Y)) (hb : look B b.key = none) (hX : ∀ e ∈ X, e.key < b.key) (hY : ∀ e ∈ Y, b.key < e.key) : IsJoin A (B ++ [b]) (X ++ b :: Y) := by
  have r : Ris (X ++ b :: Y) := by
    have := h.ris
    unfold Ris at this ⊢
    rw [List.pairwise_append] at this ⊢
    refine ⟨this.1, List.pairwise_cons.2 ⟨hY, this.2.1⟩, fun x hx y hy => ?_⟩
    rcases List.mem_cons.1 hy with rfl | hy
    · exact hX x hx
    · exact this.2.2 x hx y hy
  refine join_more h hb r (fun x => ?_)
  rw [mid_look r]
  by_cases hx : x = b.key
  · subst hx
    rw [if_pos rfl, if_pos rfl, mid_none r]
    rfl
  · rw [if_neg hx, if_neg hx]
theorem take_none {B : List En} (h : Ris B) {i : Nat} (hi : i < B.length) : look (B.take i) (B[i]).key = none := by
  refine look_none_of (fun e he e' => ?_)
  obtain ⟨j, hj, rfl⟩ := List.mem_iff_getElem.1 he
  rw [List.length_take] at hj
  unfold Ris at h
  rw [List.pairwise_iff_getElem] at h
  have := h j i (by omega) hi (by omega)
  rw [List.getElem_take] at e'
  rw [e'] at this
  exact Int.lt_irrefl _ this
theorem join_start {A : List En} (h : Ris A) : IsJoin A [] A := ⟨h, fun k => by rw [look_nil, pick_none_right]⟩
end Go.Proofs.YtllajhieocploaaGreatDoor.Mk
namespace Go.Proofs.YtllajhieocploaaGreatDoor.Mm
open Go.Proofs.YtllajhieocploaaGreatDoor.Mk (okE newB okBk look Ris IsJoin)
set_option linter.unusedVariables false
theorem toB_length (L : List Rw) : (toB L).length = L.length := List.length_map ..
theorem toB_at {L : List Rw} {i : Nat} (h : i < L.length) : (toB L)[i]'(by rw [toB_length]; exact h) = toE (rat L i) := by rw [rat_at h]; exact List.getElem_map ..
theorem split_at {M : List Rw} {k : Nat} (h : k < M.length) : M = M.take k ++ rat M k :: M.drop (k + 1) := by
  rw [rat_at h, List.getElem_cons_drop, List.take_append_drop]
/-- What l11Join has behind i Entries of the second book: one more. -/
theorem join_step {A B M : List Rw} {i k : Nat} (hB : Ris (toB B)) (hi : i < B.length) (h : IsJoin (toB A) ((toB B).take i) (toB M)) (hk : k ≤ M.length) (h1 : ∀ j, j < k → kat M j < kat B i) (h2 : k < M.length → ¬ kat M k < kat B i) :
    (∀ hk' : k < M.length, kat M k = kat B i → newB (toE (rat B i)) (toE (rat M k)) = true → IsJoin (toB A) ((toB B).take (i + 1)) (toB (M.set k (rat B i)))) ∧
    (∀ hk' : k < M.length, kat M k = kat B i → newB (toE (rat B i)) (toE (rat M k)) = false → IsJoin (toB A) ((toB B).take (i + 1)) (toB M)) ∧
    ((k < M.length → kat M k ≠ kat B i) → IsJoin (toB A) ((toB B).take (i + 1)) (toB (M.take k ++ rat B i :: M.drop k))) := by
  have hi' : i < (toB B).length := by rw [toB_length]; exact hi
  have hn := Mk.take_none hB hi'
  have et : (toB B).take (i + 1) = (toB B).take i ++ [toE (rat B i)] := by rw [List.take_add_one, List.getElem?_eq_getElem hi', toB_at hi]; rfl
  rw [toB_at hi] at hn
  rw [et]
  refine ⟨fun hk' e hnew => ?_, fun hk' e hnew => ?_, fun e => ?_⟩
  · rw [split_at hk'] at h
    simp only [toB, List.map_append, List.map_cons] at h ⊢
    rw [List.set_eq_take_append_cons_drop, if_pos hk']
    simp only [List.map_append, List.map_cons]
    exact Mk.join_set h hn e hnew
  · have h' := h
    rw [split_at hk'] at h'
    simp only [toB, List.map_append, List.map_cons] at h'
    have := Mk.join_keep h' hn e hnew
    rw [split_at hk']
    simp only [toB, List.map_append, List.map_cons]
    exact this
  · simp only [toB, List.map_append, List.map_cons]
    have hj : IsJoin (toB A) ((toB B).take i) ((M.take k).map toE ++ (M.drop k).map toE) := by rw [← List.map_append, List.take_append_drop]; exact h
    refine Mk.join_ins hj hn (fun x hx => ?_) (fun x hx => ?_)
    · obtain ⟨y, hy, rfl⟩ := List.mem_map.1 hx
      obtain ⟨j, hj, rfl⟩ := List.mem_iff_getElem.1 hy
      rw [List.length_take] at hj
      have := h1 j (by omega)
      unfold kat at this
      rw [rat_at (by omega)] at this
      rw [List.getElem_take]
      exact this
    · obtain ⟨y, hy, rfl⟩ := List.mem_map.1 hx
      obtain ⟨j, hj', rfl⟩ := List.mem_iff_getElem.1 hy
      rw [List.length_drop] at hj'
      have hk' : k < M.length := by omega
      have hlt : kat B i < kat M k := by
        rcases Classical.em (kat B i < kat M k) with h | h
        · exact h
        · exact absurd (Int.le_antisymm (Int.not_lt.1 h) (Int.not_lt.1 (h2 hk'))) (e hk')
      rw [List.getElem_drop]
      rcases Nat.eq_zero_or_pos j with hz | hp
      · subst hz
        unfold kat at hlt
        rw [rat_at hk'] at hlt
        exact hlt
      · have r := h.ris
        unfold Ris at r
        rw [List.pairwise_iff_getElem] at r
        have := r k (k + j) (by rw [toB_length]; exact hk') (by rw [toB_length]; omega) (by omega)
        rw [List.getElem_map, List.getElem_map] at this
        unfold kat at hlt
        rw [rat_at hk'] at hlt
        exact Int.lt_trans hlt this
end Go.Proofs.YtllajhieocploaaGreatDoor.Mm
namespace Go.Proofs.YtllajhieocploaaGreatDoor.Mm
open Go.ChangeShapes Go.WideShapes Go.ChangeAt Go.RowKit
open Go.Proofs.YtllajhieocploaaGreatDoor.Rc (BelowBy BelowBy.one wp_region_below calls_below calls_same)
open Go.Proofs.YtllajhieocploaaGreatDoor.Mk (okE newB okBk look Ris IsJoin)
set_option linter.unusedVariables false
/-- The three cells of a Member from place o of block b on. -/
abbrev five (w : World) (b o : Nat) (s u q : Int) : Prop := w.cell? ⟨b, o, none⟩ = some (.int .i64 s) ∧ w.cell? ⟨b, o + 1, none⟩ = some (.int .i64 u) ∧ w.cell? ⟨b, o + 2, none⟩ = some (.int .i64 q)
theorem five_kept {W w' : World} {b o : Nat} {s u q : Int} (k : Below W.heap.size W w') (h : five W b o s u q) : five w' b o s u q := by
  obtain ⟨h0, h1, h2⟩ := h
  exact ⟨by rw [k.cell (by simpa using cell_block h0)]; exact h0, by rw [k.cell (by simpa using cell_block h1)]; exact h1, by rw [k.cell (by simpa using cell_block h2)]; exact h2⟩
theorem five_rd {w : World} {b : Nat} {s u q : Int} (h : five w b 0 s u q) : Rd w (some ⟨b, 0, none⟩) [(s, u, q)] :=
  ⟨fun i hi => by
    have hi0 : i = 0 := by simp at hi; omega
    subst hi0
    refine ⟨b, 0, rfl, fun j hj => ?_⟩
    obtain ⟨h0, h1, h2⟩ := h
    match j, hj with
    | 0, _ => exact h0
    | 1, _ => exact h1
    | 2, _ => exact h2⟩
theorem five_grown {w w' : World} {r : Option Nat} {b o : Nat} {s u q : Int} (k : w.grownBy w' r) (h : five w b o s u q) (hr : some b ≠ r) : five w' b o s u q :=
  ⟨grown_cell1 k h.1 hr, grown_cell1 k h.2.1 hr, grown_cell1 k h.2.2 hr⟩
end Go.Proofs.YtllajhieocploaaGreatDoor.Mm
