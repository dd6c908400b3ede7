/-
  l12Turn, Doubted, Dropped of the specification. (Written by wip/mkTurn.py.)
  Back of the specification. (Written by wip/mkTurn.py.)
  changed of the program: one Member becomes what the table says.
  Blocks of an interval alone have turned; rows of unlike elements lie apart.
  A region that draws its order, by an invariant: what holds of the slots that have come up, whichever they are, is handed on by each operation; so each operation is looked at once, in however many orders they may come.
-/
import Derived.Test.YtceddedlfdgbhaaGreatDoorBun9
import Derived.Test.YtceddedlfdgbhaaGreatDoorMem
import Derived.Laws.OwnMore
import Derived.Deep.OwnRows
import Derived.OwnWalk
import Derived.RegionTactic
import Derived.WalkKit
import Derived.Below
namespace Go.Proofs.YtceddedlfdgbhaaGreatDoor.Mm
open Go.ChangeShapes Go.WideShapes Go.ChangeAt Go.RowKit
open Go.Proofs.YtceddedlfdgbhaaGreatDoor.Mk (okE newB okBk look Ris IsJoin mergeB)
set_option linter.unusedVariables false
/-- One of an Id and a State becomes one of the next. -/
def turnR (L : List Rw) (id st : Int) : List Rw × Bool := if okBk (toB L) = true then (L.map fun x => if x.1 = id ∧ x.2.2 = st then (x.1, x.2.1, st + 1) else x, L.any fun x => decide (x.1 = id ∧ x.2.2 = st)) else ([], false)
theorem turn_no {L : List Rw} {id st : Int} (h : okBk (toB L) = false) : turnR L id st = ([], false) := by unfold turnR; rw [if_neg (by rw [h]; decide)]
theorem one_id {L : List Rw} (h : okBk (toB L) = true) {i j : Nat} (hi : i < L.length) (hj : j < L.length) (e : kat L i = kat L j) : i = j := by
  have r := Mk.ok_ris h
  unfold Ris at r
  rw [List.pairwise_iff_getElem] at r
  unfold kat at e
  rw [rat_at hi, rat_at hj] at e
  rcases Nat.lt_trichotomy i j with q | q | q
  · have := r i j (by rw [List.length_map]; exact hi) (by rw [List.length_map]; exact hj) q
    rw [List.getElem_map, List.getElem_map] at this
    simp only [toE] at this
    omega
  · exact q
  · have := r j i (by rw [List.length_map]; exact hj) (by rw [List.length_map]; exact hi) q
    rw [List.getElem_map, List.getElem_map] at this
    simp only [toE] at this
    omega
theorem turn_hit {L : List Rw} {id st : Int} {i : Nat} (h : okBk (toB L) = true) (hi : i < L.length) (h1 : (rat L i).1 = id) (h2 : (rat L i).2.2 = st) : turnR L id st = (L.set i (id, (rat L i).2.1, st + 1), true) := by
  unfold turnR
  rw [if_pos h]
  refine Prod.ext ?_ ?_
  · refine ext_rat (by simp) (fun j hj => ?_)
    have hj' : j < L.length := by simpa using hj
    rw [rat_set hi, rat_at (by simpa using hj'), List.getElem_map]
    by_cases e : i = j
    · subst e
      rw [if_pos rfl]
      rw [rat_at hi] at h1 h2 ⊢
      rw [if_pos ⟨h1, h2⟩, h1]
    · rw [if_neg e, if_neg (fun q => e (one_id h hi hj' (by unfold kat; rw [h1, rat_at hj']; exact q.1.symm))), rat_at hj']
  · rw [List.any_eq_true]
    exact ⟨rat L i, rat_mem hi, decide_eq_true ⟨h1, h2⟩⟩
theorem turn_miss {L : List Rw} {id st : Int} (h : okBk (toB L) = true) (hn : ∀ i, i < L.length → ¬ ((rat L i).1 = id ∧ (rat L i).2.2 = st)) : turnR L id st = (L, false) := by
  unfold turnR
  rw [if_pos h]
  have hm : ∀ x ∈ L, ¬ (x.1 = id ∧ x.2.2 = st) := fun x hx => by
    obtain ⟨i, hi, e⟩ := List.mem_iff_getElem.1 hx
    have := hn i hi
    rw [rat_at hi, e] at this
    exact this
  refine Prod.ext ?_ ?_
  · show List.map _ L = L
    conv => rhs; rw [← List.map_id L]
    exact List.map_congr_left (fun x hx => if_neg (hm x hx))
  · rw [List.any_eq_false]
    intro x hx
    simpa using hm x hx
end Go.Proofs.YtceddedlfdgbhaaGreatDoor.Mm
namespace Go.Proofs.YtceddedlfdgbhaaGreatDoor.Mk
set_option linter.unusedVariables false
def upE (id t : Int) : En := ⟨id, [], t, 0, false⟩
/-- What Back answers. -/
def backB (A : List En) (id : Int) : List En × Bool :=
  if okBk A = true then (if 0 ≤ id ∧ id ≤ 7 then (match look A id with
    | some e => if e.time = 1000000 then (A, false) else (A.map fun x => if x.key = id then upE id (x.time + 1) else x, true)
    | none => (mergeE A [upE id 0], true)) else (A, false)) else ([], false)
theorem back_no {A : List En} {id : Int} (h : okBk A = false) : backB A id = ([], false) := by unfold backB; rw [if_neg (by rw [h]; decide)]
theorem back_out {A : List En} {id : Int} (h : okBk A = true) (k : ¬ (0 ≤ id ∧ id ≤ 7)) : backB A id = (A, false) := by unfold backB; rw [if_pos h, if_neg k]
theorem back_max {A : List En} {id : Int} {e : En} (h : okBk A = true) (k : 0 ≤ id ∧ id ≤ 7) (hl : look A id = some e) (ht : e.time = 1000000) : backB A id = (A, false) := by unfold backB; rw [if_pos h, if_pos k, hl]; simp [ht]
theorem back_up {A : List En} {id : Int} {e : En} (h : okBk A = true) (k : 0 ≤ id ∧ id ≤ 7) (hl : look A id = some e) (ht : e.time ≠ 1000000) : backB A id = (A.map fun x => if x.key = id then upE id (x.time + 1) else x, true) := by unfold backB; rw [if_pos h, if_pos k, hl]; simp [ht]
theorem upE_ok {id t : Int} (k : 0 ≤ id ∧ id ≤ 7) (ht : 0 ≤ t ∧ t ≤ 1000000) : okE (upE id t) = true := by
  unfold okE upE
  simp only [Bool.and_eq_true, decide_eq_true_eq]
  omega
theorem back_new {A J : List En} {id : Int} (h : okBk A = true) (k : 0 ≤ id ∧ id ≤ 7) (hl : look A id = none) (j : IsJoin A [upE id 0] J) : backB A id = (J, true) := by
  unfold backB
  rw [if_pos h, if_pos k, hl]
  simp only
  rw [(merge_join A [upE id 0] (ok_ris h) (List.pairwise_singleton _ _)).unique j]
end Go.Proofs.YtceddedlfdgbhaaGreatDoor.Mk
namespace Go.Proofs.YtceddedlfdgbhaaGreatDoor.Mm
open Go.ChangeShapes Go.WideShapes Go.ChangeAt Go.RowKit
open Go.Proofs.YtceddedlfdgbhaaGreatDoor.Mk (okE newB okBk look Ris IsJoin mergeB backB upE)
set_option linter.unusedVariables false
theorem look_hit {L : List Rw} {id : Int} {i : Nat} (h : okBk (toB L) = true) (hi : i < L.length) (e : (rat L i).1 = id) : Mk.look (toB L) id = some (toE (rat L i)) := by
  have := Mk.look_mem (Mk.ok_ris h) (List.mem_map.2 ⟨_, rat_mem hi, rfl⟩ : toE (rat L i) ∈ toB L)
  rw [show (toE (rat L i)).key = id from e] at this
  exact this
theorem look_miss {L : List Rw} {id : Int} (h : ∀ j, j < L.length → (rat L j).1 ≠ id) : Mk.look (toB L) id = none :=
  Mk.look_none_of (fun x hx => by
    obtain ⟨y, hy, rfl⟩ := List.mem_map.1 hx
    obtain ⟨j, hj, rfl⟩ := List.mem_iff_getElem.1 hy
    have := h j hj
    rw [rat_at hj] at this
    exact this)
theorem map_up {L : List Rw} {id : Int} {i : Nat} (h : okBk (toB L) = true) (hi : i < L.length) (e : (rat L i).1 = id) : toB (L.set i (id, (rat L i).2.1 + 1, 0)) = (toB L).map fun x => if x.key = id then upE id (x.time + 1) else x := by
  refine List.ext_getElem (by simp) (fun j h1 h2 => ?_)
  have hj : j < L.length := by simpa using h1
  simp only [toB, List.getElem_map, List.getElem_set]
  by_cases q : i = j
  · subst q
    rw [if_pos rfl]
    rw [rat_at hi] at e ⊢
    rw [if_pos (show (toE L[i]).key = id from e)]
    rfl
  · rw [if_neg q, if_neg]
    intro c
    refine q (one_id h hi hj ?_)
    unfold kat
    rw [e, rat_at hj]
    exact c.symm
end Go.Proofs.YtceddedlfdgbhaaGreatDoor.Mm
namespace Go.Proofs.YtceddedlfdgbhaaGreatDoor.Mm
open Go.ChangeShapes Go.WideShapes Go.ChangeAt Go.RowKit
open Go.Proofs.YtceddedlfdgbhaaGreatDoor.Rc (BelowBy BelowBy.one wp_region_below calls_below calls_same)
open Go.Proofs.YtceddedlfdgbhaaGreatDoor.Mk (okE newB okBk look Ris IsJoin mergeB backB upE)
set_option linter.unusedVariables false
/-- What becomes of a list where one of an Id becomes nx, if ch says so. -/
structure ChR (L : List Rw) (id : Int) (nx : Rw → Rw) (ch : Rw → Bool) (M : List Rw) (b : Bool) : Prop where
  no : okBk (toB L) = false → M = [] ∧ b = false
  yes : okBk (toB L) = true → ∀ k, k < L.length → kat L k = id → M = L.set k (nx (rat L k)) ∧ b = ch (rat L k)
  miss : okBk (toB L) = true → (∀ k, k < L.length → kat L k ≠ id) → M = L ∧ b = false
theorem ChR.mkNo {L : List Rw} {id : Int} {nx : Rw → Rw} {ch : Rw → Bool} (ok : okBk (toB L) = false) : ChR L id nx ch [] false where
  no := fun _ => ⟨rfl, rfl⟩
  yes := fun e => by rw [ok] at e; cases e
  miss := fun e => by rw [ok] at e; cases e
theorem ChR.mkMiss {L : List Rw} {id : Int} {nx : Rw → Rw} {ch : Rw → Bool} (ok : okBk (toB L) = true) (hn : ∀ k, k < L.length → kat L k ≠ id) : ChR L id nx ch L false where
  no := fun e => by rw [ok] at e; cases e
  yes := fun _ k hk e => absurd e (hn k hk)
  miss := fun _ _ => ⟨rfl, rfl⟩
theorem ChR.mkYes {L : List Rw} {id : Int} {nx : Rw → Rw} {ch : Rw → Bool} (ok : okBk (toB L) = true) (k : Nat) (hk : k < L.length) (e : kat L k = id) : ChR L id nx ch (L.set k (nx (rat L k))) (ch (rat L k)) where
  no := fun e => by rw [ok] at e; cases e
  yes := fun o k' hk' e' => by
    obtain rfl := one_id o hk hk' (e.trans e'.symm)
    exact ⟨rfl, rfl⟩
  miss := fun _ hn => absurd e (hn k hk)
def ChP (L : List Rw) (id : Int) (nx : Rw → Rw) (ch : Rw → Bool) (w : World) (e : Ending) (w' : World) : Prop := ∃ v M b, e = .returned (.tuple #[v, .bool b]) ∧ ChR L id nx ch M b ∧ Own w' w.heap.size v M ∧ Below w.heap.size w w'
theorem ChP.of {L : List Rw} {id : Int} {nx : Rw → Rw} {ch : Rw → Bool} {w w' : World} {e : Ending} {v : Value} {M : List Rw} {b : Bool} (h : e = .returned (.tuple #[v, .bool b])) (h1 : ChR L id nx ch M b) (h2 : Own w' w.heap.size v M) (h3 : Below w.heap.size w w') : ChP L id nx ch w e w' := ⟨v, M, b, h, h1, h2, h3⟩
theorem ChP.out {L : List Rw} {id : Int} {nx : Rw → Rw} {ch : Rw → Bool} {w w' : World} {e : Ending} (h : ChP L id nx ch w e w') : ∃ v M b, e = .returned (.tuple #[v, .bool b]) ∧ ChR L id nx ch M b ∧ Own w' w.heap.size v M ∧ Below w.heap.size w w' := h
theorem At.none {L : List Rw} {id : Int} {k : Nat} (hr : Ris (toB L)) (h : At L id k false) : ∀ j, j < L.length → kat L j ≠ id := by
  intro j hj
  rcases Nat.lt_trichotomy j k with q | q | q
  · have := h.lo j q; omega
  · subst q; exact h.no rfl hj
  · have h1 := h.hi (by omega)
    have r := hr
    unfold Ris at r
    rw [List.pairwise_iff_getElem] at r
    have := r k j (by rw [List.length_map]; omega) (by rw [List.length_map]; exact hj) q
    rw [List.getElem_map, List.getElem_map] at this
    simp only [toE] at this
    unfold kat at h1 ⊢
    rw [rat_at (by omega)] at h1
    rw [rat_at hj]
    omega
end Go.Proofs.YtceddedlfdgbhaaGreatDoor.Mm
namespace Go.Proofs.YtceddedlfdgbhaaGreatDoor.Rp
open Go.ChangeShapes Go.WideShapes Go.ChangeAt Go.RowKit
set_option linter.unusedVariables false
/-- Nothing has turned but blocks from lo up to hi. -/
structure OnlyIn (lo hi : Nat) (w w' : World) : Prop where
  os : w'.os = w.os
  tape : w'.tape = w.tape
  output : w'.output = w.output
  size : w.heap.size ≤ w'.heap.size
  block : ∀ k, k < w.heap.size → ¬ (lo ≤ k ∧ k < hi) → w'.heap[k]? = w.heap[k]?
theorem OnlyIn.refl (lo hi : Nat) (w : World) : OnlyIn lo hi w w := ⟨rfl, rfl, rfl, Nat.le_refl _, fun _ _ _ => rfl⟩
theorem OnlyIn.trans {lo hi : Nat} {a b d : World} (h : OnlyIn lo hi a b) (k : OnlyIn lo hi b d) : OnlyIn lo hi a d :=
  ⟨k.os.trans h.os, k.tape.trans h.tape, k.output.trans h.output, Nat.le_trans h.size k.size, fun i hi hc => (k.block i (Nat.lt_of_lt_of_le hi h.size) hc).trans (h.block i hi hc)⟩
theorem OnlyIn.of_below {lo hi : Nat} {w w' : World} (h : Below w.heap.size w w') : OnlyIn lo hi w w' := ⟨h.os, h.tape, h.output, h.size, fun k hk _ => h.block k hk⟩
theorem OnlyIn.of_only {lo hi c : Nat} {w w' : World} (h : Only c w w') (hc : w.heap.size ≤ c ∨ (lo ≤ c ∧ c < hi)) : OnlyIn lo hi w w' :=
  ⟨h.os, h.tape, h.output, h.size, fun k hk hn => h.block k hk (fun e => by subst e; rcases hc with q | q; omega; exact hn q)⟩
theorem OnlyIn.below {lo hi B : Nat} {w w' : World} (h : OnlyIn lo hi w w') (hB : B ≤ lo) (hs : B ≤ w.heap.size) : Below B w w' := ⟨h.os, h.tape, h.output, h.size, fun k hk => h.block k (by omega) (by omega)⟩
/-- A row of which no block has turned. -/
theorem row_in {lo hi : Nat} {w w' : World} {b e s n : Nat} {v : Value} {xs : List Value} (h : w.ownsRow b e s v n xs) (Y : OnlyIn lo hi w w') (hd : ∀ g, v.ownBlock = some g → ¬ (lo ≤ g ∧ g < hi)) : w'.ownsRow b e s v n xs := by
  rcases h.2 with ⟨e1, e2⟩ | ⟨g, cap, cur, e1, hb, hg, r⟩
  · exact ⟨h.1, .inl ⟨e1, e2⟩⟩
  · refine ⟨h.1, .inr ⟨g, cap, cur, e1, hb, ?_, r⟩⟩
    rw [Y.block g (Array.getElem?_eq_some_iff.1 hg).1 (hd g (by rw [e1]; rfl))]
    exact hg
/-- Rows of unlike elements lie in unlike blocks. -/
theorem own_apart {w : World} {base base' e e' s s' n n' : Nat} {v v' : Value} {xs xs' : List Value} (h : w.ownsRow base e s v n xs) (h' : w.ownsRow base' e' s' v' n' xs') (hne : e ≠ e') : ∀ g, v.ownBlock = some g → v'.ownBlock ≠ some g := by
  intro g hg hg'
  rcases h.2 with ⟨e1, _⟩ | ⟨x, cap, cur, e1, _, hx, _⟩
  · rw [e1] at hg; cases hg
  · rcases h'.2 with ⟨e2, _⟩ | ⟨y, cap', cur', e2, _, hy, _⟩
    · rw [e2] at hg'; cases hg'
    · rw [e1] at hg
      rw [e2] at hg'
      cases hg
      cases hg'
      rw [hx] at hy
      cases hy
      exact hne rfl
/-- Nothing but one row's block has turned: another row stays. -/
theorem row_other {w w' : World} {b b' e e' s s' n n' : Nat} {u v : Value} {xs ys : List Value} (hu : w.ownsRow b e s u n xs) (hv : w.ownsRow b' e' s' v n' ys) (Y : Only (v.ownBlock.getD w.heap.size) w w') (hd : ∀ g, u.ownBlock = some g → v.ownBlock ≠ some g) : w'.ownsRow b e s u n xs := by
  refine World.ownsRow.kept hu (row := some (v.ownBlock.getD w.heap.size)) ⟨Y.os, Y.tape, Y.output, Y.size, fun i hi hne => Y.block i hi (fun e => hne (by rw [e]))⟩ ?_
  cases hub : u.ownBlock with
  | none => exact .inl rfl
  | some g =>
    refine .inr (fun e => ?_)
    have h2 := (World.ownsRow.lt hu g hub).2
    have e' := Option.some.inj e
    cases hvb : v.ownBlock with
    | none => rw [hvb] at e'; simp at e'; omega
    | some x => rw [hvb] at e'; simp at e'; subst e'; exact hd g hub hvb
end Go.Proofs.YtceddedlfdgbhaaGreatDoor.Rp
namespace Go.Proofs.YtceddedlfdgbhaaGreatDoor.Rg
open Go.RowKit
set_option linter.unusedVariables false
/-- Number i has come up. -/
def upd (L : Nat → Bool) (i : Nat) : Nat → Bool := fun j => if j = i then true else L j
/-- Where it binds in any order, each waits for elder ones alone. -/
def depB (ops : Array Oper) : Bool := (List.range ops.size).all fun i => ((ops[i]?).map fun o => o.after.all fun e => !Region.binds .any e || decide (e.on < i)).getD true
theorem dep_of {ops : Array Oper} (h : depB ops = true) {i : Nat} {o : Oper} (ho : ops[i]? = some o) {e : Edge} (he : e ∈ o.after) (hb : Region.binds .any e = true) : e.on < i := by
  unfold depB at h
  rw [List.all_eq_true] at h
  have h1 := h i (List.mem_range.2 (Array.getElem?_eq_some_iff.1 ho).1)
  rw [ho] at h1
  simp only [Option.map_some, Option.getD_some] at h1
  have h2 := Array.all_eq_true_iff_forall_mem.1 h1 e he
  rw [hb] at h2
  simpa using h2
variable {P : Program} {ops : Array Oper} {Q : Exit → Act → World → Prop}
theorem getD_in {l : Array Bool} {i : Nat} (h : i < l.size) (d d' : Bool) : l.getD i d = l.getD i d' := by simp [Array.getD, h]
theorem getD_out {l : Array Bool} {i : Nat} (h : ¬ i < l.size) (d : Bool) : l.getD i d = d := by simp [Array.getD, h]
theorem all_of_ready (hd : depB ops = true) {l : Array Bool} (hz : l.size = ops.size) (hr : Region.ready .any ops l = []) : ∀ i, l.getD i true = true := by
  intro i
  induction i using Nat.strongRecOn with
  | ind i ih =>
    by_cases hi : i < l.size
    · cases hc : l.getD i true with
      | true => rfl
      | false =>
        exfalso
        have ho : ops[i]? = some ops[i] := Array.getElem?_eq_getElem (by omega)
        have : i ∈ Region.ready .any ops l := mem_ready.2 ⟨hc, ops[i], ho, fun e he hb => by
          have := dep_of hd ho he hb
          rw [getD_in (by omega) false true]
          exact ih e.on this⟩
        rw [hr] at this
        cases this
    · exact getD_out hi true
theorem count_upd {l : Array Bool} {i n : Nat} (hi : i < l.size) (hf : l.getD i true = false) (hc : l.toList.count false ≤ n + 1) : (l.setIfInBounds i true).toList.count false ≤ n := by
  have e : l[i] = false := by simpa [Array.getD, hi] using hf
  have h1 : 0 < l.toList.count false := List.count_pos_iff.2 (by rw [← e]; simp)
  rw [Array.toList_setIfInBounds, List.count_set (by simpa using hi)]
  simp [e]
  simp at hc h1
  omega
theorem wpAny_inv (hd : depB ops = true) (I : (Nat → Bool) → Act → World → Prop)
    (hs : ∀ L a w i, i < ops.size → I L a w → L i = false → (∀ o, ops[i]? = some o → ∀ e ∈ o.after, Region.binds .any e = true → L e.on = true) → wpOp P ops Q i (fun a' w' => I (upd L i) a' w') a w)
    (hq : ∀ L a w, I L a w → (∀ i, L i = true) → Q .normal a w) :
    ∀ (fuel : Nat) (l : Array Bool) (a : Act) (w : World), l.size = ops.size → l.toList.count false ≤ fuel → I (fun i => l.getD i true) a w → wpAny P .any ops Q fuel l a w := by
  intro fuel
  induction fuel with
  | zero =>
    intro l a w hz hc hI
    have all : ∀ i, l.getD i true = true := by
      intro i
      by_cases hi : i < l.size
      · cases e : l.getD i true with
        | true => rfl
        | false =>
          exfalso
          have e' : l[i] = false := by simpa [Array.getD, hi] using e
          have : 0 < l.toList.count false := List.count_pos_iff.2 (by rw [← e']; simp)
          omega
      · exact getD_out hi true
    refine ⟨?_, hq _ _ _ hI all⟩
    rw [List.eq_nil_iff_forall_not_mem]
    intro i hi
    have := (mem_ready.1 hi).1
    rw [all i] at this
    cases this
  | succ fuel ih =>
    intro l a w hz hc hI
    refine ⟨fun hr => hq _ _ _ hI (all_of_ready hd hz hr), fun i hi => ?_⟩
    obtain ⟨h1, o, ho, h2⟩ := mem_ready.1 hi
    have hlt := (Array.getElem?_eq_some_iff.1 ho).1
    refine wpOp_mono (fun a' w' h => ih _ a' w' (by simpa using hz) (count_upd (by omega) h1 hc) ?_) (hs _ a w i hlt hI h1 (fun o' ho' e he hb => ?_))
    · have e : (fun j => (l.setIfInBounds i true).getD j true) = upd (fun j => l.getD j true) i := by
        funext j
        unfold upd
        by_cases e : j = i
        · subst e
          have hj : j < l.size := by omega
          simp [Array.getD, hj]
        · rw [if_neg e]
          by_cases hj : j < l.size
          · simp [Array.getD, hj, Ne.symm e]
          · simp [Array.getD, hj]
      rw [e]
      exact h
    · rw [ho] at ho'
      cases ho'
      have hon := dep_of hd ho he hb
      have := h2 e he hb
      rw [getD_in (by omega) false true] at this
      exact this
/-- What operation number i of a list waits for. -/
def waits (l : List Oper) (i : Nat) : List Nat := ((l[i]?).map fun o => (o.after.toList.filter (Region.binds .any)).map (·.on)).getD []
theorem wp_region_inv {id : Nat} {a : Act} {w : World} {l : List Oper} (hm : P.follows .mixedOrders = true) (hd : depB l.toArray = true) (I : (Nat → Bool) → Act → World → Prop)
    (h0 : I (fun i => decide (l.length ≤ i)) a w.drew)
    (hs : ∀ L a w i, i < l.length → I L a w → L i = false → (∀ d, (waits l i).contains d = true → L d = true) → wpOp P l.toArray Q i (fun a' w' => I (upd L i) a' w') a w)
    (hq : ∀ L a w, I L a w → (∀ i, L i = true) → Q .normal a w) : (Code.region id l.toArray true).wp P Q a w := by
  refine wp_region_any hm (wpAny_inv hd I (fun L a w i hi hI hL hdep => hs L a w i (by simpa using hi) hI hL (fun d hd' => ?_)) hq _ _ _ _ (by simp) (by simp) ?_)
  · unfold waits at hd'
    cases ho : l[i]? with
    | none => rw [ho] at hd'; simp at hd'
    | some o =>
      rw [ho] at hd'
      simp only [Option.map_some, Option.getD_some] at hd'
      have hm := List.contains_iff_mem.1 hd'
      obtain ⟨e, he, rfl⟩ := List.mem_map.1 hm
      obtain ⟨h1, h2⟩ := List.mem_filter.1 he
      exact hdep o (by simpa using ho) e (by simpa using h1) h2
  · have e : (fun i => (Array.replicate l.toArray.size false).getD i true) = fun i => decide (l.length ≤ i) := by
      funext i
      by_cases h : i < l.length
      · simp [Array.getD, h]
      · simp [Array.getD, h]; omega
    rw [e]
    exact h0
/-- An operation, read off the region's own list. -/
theorem op_at {l : List Oper} {i : Nat} {o : Oper} {K : Act → World → Prop} {a : Act} {w : World} (ho : l[i]? = some o)
    (h : ∀ K' : Act → World → Prop, (∀ a w, K a w → K' a w) → if Region.wanted o (yielded l.toArray a.tmps) = true then Oper.wp P o a w K' Q else K' (a.put o.dst undef) w) : wpOp P l.toArray Q i K a w :=
  wpOp_step (by simpa using ho) h
end Go.Proofs.YtceddedlfdgbhaaGreatDoor.Rg
