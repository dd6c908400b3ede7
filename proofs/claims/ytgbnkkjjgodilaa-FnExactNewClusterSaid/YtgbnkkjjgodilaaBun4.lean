/-
  Members as rows; Stronger of the specification.
  Blocks of an interval alone have turned; rows of unlike elements lie apart.
  A region that draws its order, by an invariant: what holds of the slots that have come up, whichever they are, is handed on by each operation; so each operation is looked at once, in however many orders they may come.
  Steps of a region that draws its order: appends onto rows of any kind; what stays where one row grows; a block of one's own that holds the one thing to be appended.
  NewRoll, Step and Signing of the specification, in plain words.
-/
import Derived.Test.YtgbnkkjjgodilaaBun3
import Derived.Test.YtgbnkkjjgodilaaMem2M
import Derived.Test.YtgbnkkjjgodilaaQuiet
import Derived.Handy
import Derived.Deep.RegionHeld3
import Derived.Test.YtgbnkkjjgodilaaMem
import Derived.Laws.OwnMore
import Derived.Deep.OwnRows
import Derived.OwnWalk
import Derived.RegionTactic
import Derived.WalkKit
import Derived.Below
import Derived.Test.YtgbnkkjjgodilaaBoxM
import Derived.Test.YtgbnkkjjgodilaaRollM
namespace Go.Proofs.Ytgbnkkjjgodilaa.Mm
open Go.ChangeShapes Go.WideShapes Go.ChangeAt Go.RowKit
open Go.Proofs.Ytgbnkkjjgodilaa.Rc (BelowBy BelowBy.one wp_region_below calls_below calls_same)
open Go.Proofs.Ytgbnkkjjgodilaa.Mk (okE newB okBk look Ris)
set_option linter.unusedVariables false
def toE (x : Rw) : Mk.En := ⟨x.1, [], x.2.1, x.2.2, false⟩
theorem toE_inj {x y : Rw} (h : toE x = toE y) : x = y := by
  obtain ⟨a, b, c⟩ := x
  obtain ⟨a', b', c'⟩ := y
  simp only [toE, Mk.En.mk.injEq] at h
  obtain ⟨rfl, _, rfl, rfl, _⟩ := h
  rfl
abbrev toB (L : List Rw) : List Mk.En := L.map toE
theorem toB_inj {L M : List Rw} (h : toB L = toB M) : L = M := by
  induction L generalizing M with
  | nil => cases M with
    | nil => rfl
    | cons y M => cases h
  | cons x L ih => cases M with
    | nil => cases h
    | cons y M =>
      simp only [toB, List.map_cons, List.cons.injEq] at h
      rw [toE_inj h.1, ih h.2]
abbrev kat (L : List Rw) (i : Nat) : Int := (rat L i).1
theorem new_str (x y : Rw) : newB (toE x) (toE y) = (decide (y.2.1 < x.2.1) || (decide (x.2.1 = y.2.1) && decide (y.2.2 < x.2.2))) := by
  obtain ⟨a, b, c⟩ := x
  obtain ⟨a', b', c'⟩ := y
  unfold newB toE
  simp only
  by_cases h : b = b'
  · subst h
    rw [if_neg (by simp)]
    by_cases k : c = c'
    · subst k; simp
    · rw [if_pos k]; simp
  · rw [if_pos h]
    simp [h]
theorem ris_of {L : List Rw} (h : ∀ i, i + 1 < L.length → kat L i < kat L (i + 1)) : Ris (toB L) := by
  unfold Ris
  rw [List.pairwise_iff_getElem]
  have far : ∀ d i, i + d + 1 < L.length → kat L i < kat L (i + d + 1) := by
    intro d
    induction d with
    | zero => intro i hi; exact h i hi
    | succ d ih => intro i hi; exact Int.lt_trans (ih i (by omega)) (h (i + d + 1) hi)
  intro i j hi hj hij
  rw [List.length_map] at hi hj
  have := far (j - i - 1) i (by omega)
  rw [show i + (j - i - 1) + 1 = j by omega] at this
  unfold kat at this
  rw [rat_at hi, rat_at hj] at this
  rw [List.getElem_map, List.getElem_map]
  exact this
theorem ris_to {L : List Rw} (h : Ris (toB L)) (i : Nat) (hi : i + 1 < L.length) : kat L i < kat L (i + 1) := by
  unfold Ris at h
  rw [List.pairwise_iff_getElem] at h
  have := h i (i + 1) (by rw [List.length_map]; omega) (by rw [List.length_map]; exact hi) (by omega)
  rw [List.getElem_map, List.getElem_map] at this
  unfold kat
  rw [rat_at (by omega), rat_at hi]
  exact this
theorem book_yes {L : List Rw} (h1 : L.length ≤ 8) (h2 : ∀ i, i < L.length → okE (toE (rat L i)) = true) (h3 : ∀ i, i + 1 < L.length → kat L i < kat L (i + 1)) : okBk (toB L) = true := by
  refine Mk.ok_mk (by rw [List.length_map]; exact h1) (fun e he => ?_) (ris_of h3)
  obtain ⟨x, hx, rfl⟩ := List.mem_map.1 he
  obtain ⟨i, hi, rfl⟩ := List.mem_iff_getElem.1 hx
  have := h2 i hi
  rwa [rat_at hi] at this
theorem book_no1 {L : List Rw} (h : ¬ L.length ≤ 8) : okBk (toB L) = false := by
  cases e : okBk (toB L) with
  | false => rfl
  | true => exact absurd (by have := Mk.ok_len e; rwa [List.length_map] at this) h
theorem book_no2 {L : List Rw} {i : Nat} (hi : i < L.length) (h : okE (toE (rat L i)) = false) : okBk (toB L) = false := by
  cases e : okBk (toB L) with
  | false => rfl
  | true =>
    have := Mk.ok_all e (List.mem_map.2 ⟨_, rat_mem hi, rfl⟩)
    rw [h] at this
    cases this
theorem book_no3 {L : List Rw} {i : Nat} (hi : i + 1 < L.length) (h : ¬ kat L i < kat L (i + 1)) : okBk (toB L) = false := by
  cases e : okBk (toB L) with
  | false => rfl
  | true => exact absurd (ris_to (Mk.ok_ris e) i hi) h
end Go.Proofs.Ytgbnkkjjgodilaa.Mm
namespace Go.Proofs.Ytgbnkkjjgodilaa.Rp
open Go.ChangeShapes Go.WideShapes Go.ChangeAt Go.RowKit
set_option linter.unusedVariables false
/-- Nothing has turned but blocks from lo up to hi. -/
structure OnlyIn (lo hi : Nat) (w w' : World) : Prop where
  os : w'.os = w.os
  tape : w'.tape = w.tape
  output : w'.output = w.output
  size : w.heap.size ≤ w'.heap.size
  block : ∀ k, k < w.heap.size → ¬ (lo ≤ k ∧ k < hi) → w'.heap[k]? = w.heap[k]?
theorem OnlyIn.refl (lo hi : Nat) (w : World) : OnlyIn lo hi w w := ⟨rfl, rfl, rfl, Nat.le_refl _, fun _ _ _ => rfl⟩
theorem OnlyIn.trans {lo hi : Nat} {a b d : World} (h : OnlyIn lo hi a b) (k : OnlyIn lo hi b d) : OnlyIn lo hi a d :=
  ⟨k.os.trans h.os, k.tape.trans h.tape, k.output.trans h.output, Nat.le_trans h.size k.size, fun i hi hc => (k.block i (Nat.lt_of_lt_of_le hi h.size) hc).trans (h.block i hi hc)⟩
theorem OnlyIn.of_below {lo hi : Nat} {w w' : World} (h : Below w.heap.size w w') : OnlyIn lo hi w w' := ⟨h.os, h.tape, h.output, h.size, fun k hk _ => h.block k hk⟩
theorem OnlyIn.of_only {lo hi c : Nat} {w w' : World} (h : Only c w w') (hc : w.heap.size ≤ c ∨ (lo ≤ c ∧ c < hi)) : OnlyIn lo hi w w' :=
  ⟨h.os, h.tape, h.output, h.size, fun k hk hn => h.block k hk (fun e => by subst e; rcases hc with q | q; omega; exact hn q)⟩
theorem OnlyIn.below {lo hi B : Nat} {w w' : World} (h : OnlyIn lo hi w w') (hB : B ≤ lo) (hs : B ≤ w.heap.size) : Below B w w' := ⟨h.os, h.tape, h.output, h.size, fun k hk => h.block k (by omega) (by omega)⟩
/-- A row of which no block has turned. -/
theorem row_in {lo hi : Nat} {w w' : World} {b e s n : Nat} {v : Value} {xs : List Value} (h : w.ownsRow b e s v n xs) (Y : OnlyIn lo hi w w') (hd : ∀ g, v.ownBlock = some g → ¬ (lo ≤ g ∧ g < hi)) : w'.ownsRow b e s v n xs := by
  rcases h.2 with ⟨e1, e2⟩ | ⟨g, cap, cur, e1, hb, hg, r⟩
  · exact ⟨h.1, .inl ⟨e1, e2⟩⟩
  · refine ⟨h.1, .inr ⟨g, cap, cur, e1, hb, ?_, r⟩⟩
    rw [Y.block g (Array.getElem?_eq_some_iff.1 hg).1 (hd g (by rw [e1]; rfl))]
    exact hg
/-- Rows of unlike elements lie in unlike blocks. -/
theorem own_apart {w : World} {base base' e e' s s' n n' : Nat} {v v' : Value} {xs xs' : List Value} (h : w.ownsRow base e s v n xs) (h' : w.ownsRow base' e' s' v' n' xs') (hne : e ≠ e') : ∀ g, v.ownBlock = some g → v'.ownBlock ≠ some g := by
  intro g hg hg'
  rcases h.2 with ⟨e1, _⟩ | ⟨x, cap, cur, e1, _, hx, _⟩
  · rw [e1] at hg; cases hg
  · rcases h'.2 with ⟨e2, _⟩ | ⟨y, cap', cur', e2, _, hy, _⟩
    · rw [e2] at hg'; cases hg'
    · rw [e1] at hg
      rw [e2] at hg'
      cases hg
      cases hg'
      rw [hx] at hy
      cases hy
      exact hne rfl
/-- Nothing but one row's block has turned: another row stays. -/
theorem row_other {w w' : World} {b b' e e' s s' n n' : Nat} {u v : Value} {xs ys : List Value} (hu : w.ownsRow b e s u n xs) (hv : w.ownsRow b' e' s' v n' ys) (Y : Only (v.ownBlock.getD w.heap.size) w w') (hd : ∀ g, u.ownBlock = some g → v.ownBlock ≠ some g) : w'.ownsRow b e s u n xs := by
  refine World.ownsRow.kept hu (row := some (v.ownBlock.getD w.heap.size)) ⟨Y.os, Y.tape, Y.output, Y.size, fun i hi hne => Y.block i hi (fun e => hne (by rw [e]))⟩ ?_
  cases hub : u.ownBlock with
  | none => exact .inl rfl
  | some g =>
    refine .inr (fun e => ?_)
    have h2 := (World.ownsRow.lt hu g hub).2
    have e' := Option.some.inj e
    cases hvb : v.ownBlock with
    | none => rw [hvb] at e'; simp at e'; omega
    | some x => rw [hvb] at e'; simp at e'; subst e'; exact hd g hub hvb
end Go.Proofs.Ytgbnkkjjgodilaa.Rp
namespace Go.Proofs.Ytgbnkkjjgodilaa.Rg
open Go.RowKit
set_option linter.unusedVariables false
/-- Number i has come up. -/
def upd (L : Nat → Bool) (i : Nat) : Nat → Bool := fun j => if j = i then true else L j
/-- Where it binds in any order, each waits for elder ones alone. -/
def depB (ops : Array Oper) : Bool := (List.range ops.size).all fun i => ((ops[i]?).map fun o => o.after.all fun e => !Region.binds .any e || decide (e.on < i)).getD true
theorem dep_of {ops : Array Oper} (h : depB ops = true) {i : Nat} {o : Oper} (ho : ops[i]? = some o) {e : Edge} (he : e ∈ o.after) (hb : Region.binds .any e = true) : e.on < i := by
  unfold depB at h
  rw [List.all_eq_true] at h
  have h1 := h i (List.mem_range.2 (Array.getElem?_eq_some_iff.1 ho).1)
  rw [ho] at h1
  simp only [Option.map_some, Option.getD_some] at h1
  have h2 := Array.all_eq_true_iff_forall_mem.1 h1 e he
  rw [hb] at h2
  simpa using h2
variable {P : Program} {ops : Array Oper} {Q : Exit → Act → World → Prop}
theorem getD_in {l : Array Bool} {i : Nat} (h : i < l.size) (d d' : Bool) : l.getD i d = l.getD i d' := by simp [Array.getD, h]
theorem getD_out {l : Array Bool} {i : Nat} (h : ¬ i < l.size) (d : Bool) : l.getD i d = d := by simp [Array.getD, h]
theorem all_of_ready (hd : depB ops = true) {l : Array Bool} (hz : l.size = ops.size) (hr : Region.ready .any ops l = []) : ∀ i, l.getD i true = true := by
  intro i
  induction i using Nat.strongRecOn with
  | ind i ih =>
    by_cases hi : i < l.size
    · cases hc : l.getD i true with
      | true => rfl
      | false =>
        exfalso
        have ho : ops[i]? = some ops[i] := Array.getElem?_eq_getElem (by omega)
        have : i ∈ Region.ready .any ops l := mem_ready.2 ⟨hc, ops[i], ho, fun e he hb => by
          have := dep_of hd ho he hb
          rw [getD_in (by omega) false true]
          exact ih e.on this⟩
        rw [hr] at this
        cases this
    · exact getD_out hi true
theorem count_upd {l : Array Bool} {i n : Nat} (hi : i < l.size) (hf : l.getD i true = false) (hc : l.toList.count false ≤ n + 1) : (l.setIfInBounds i true).toList.count false ≤ n := by
  have e : l[i] = false := by simpa [Array.getD, hi] using hf
  have h1 : 0 < l.toList.count false := List.count_pos_iff.2 (by rw [← e]; simp)
  rw [Array.toList_setIfInBounds, List.count_set (by simpa using hi)]
  simp [e]
  simp at hc h1
  omega
theorem wpAny_inv (hd : depB ops = true) (I : (Nat → Bool) → Act → World → Prop)
    (hs : ∀ L a w i, i < ops.size → I L a w → L i = false → (∀ o, ops[i]? = some o → ∀ e ∈ o.after, Region.binds .any e = true → L e.on = true) → wpOp P ops Q i (fun a' w' => I (upd L i) a' w') a w)
    (hq : ∀ L a w, I L a w → (∀ i, L i = true) → Q .normal a w) :
    ∀ (fuel : Nat) (l : Array Bool) (a : Act) (w : World), l.size = ops.size → l.toList.count false ≤ fuel → I (fun i => l.getD i true) a w → wpAny P .any ops Q fuel l a w := by
  intro fuel
  induction fuel with
  | zero =>
    intro l a w hz hc hI
    have all : ∀ i, l.getD i true = true := by
      intro i
      by_cases hi : i < l.size
      · cases e : l.getD i true with
        | true => rfl
        | false =>
          exfalso
          have e' : l[i] = false := by simpa [Array.getD, hi] using e
          have : 0 < l.toList.count false := List.count_pos_iff.2 (by rw [← e']; simp)
          omega
      · exact getD_out hi true
    refine ⟨?_, hq _ _ _ hI all⟩
    rw [List.eq_nil_iff_forall_not_mem]
    intro i hi
    have := (mem_ready.1 hi).1
    rw [all i] at this
    cases this
  | succ fuel ih =>
    intro l a w hz hc hI
    refine ⟨fun hr => hq _ _ _ hI (all_of_ready hd hz hr), fun i hi => ?_⟩
    obtain ⟨h1, o, ho, h2⟩ := mem_ready.1 hi
    have hlt := (Array.getElem?_eq_some_iff.1 ho).1
    refine wpOp_mono (fun a' w' h => ih _ a' w' (by simpa using hz) (count_upd (by omega) h1 hc) ?_) (hs _ a w i hlt hI h1 (fun o' ho' e he hb => ?_))
    · have e : (fun j => (l.setIfInBounds i true).getD j true) = upd (fun j => l.getD j true) i := by
        funext j
        unfold upd
        by_cases e : j = i
        · subst e
          have hj : j < l.size := by omega
          simp [Array.getD, hj]
        · rw [if_neg e]
          by_cases hj : j < l.size
          · simp [Array.getD, hj, Ne.symm e]
          · simp [Array.getD, hj]
      rw [e]
      exact h
    · rw [ho] at ho'
      cases ho'
      have hon := dep_of hd ho he hb
      have := h2 e he hb
      rw [getD_in (by omega) false true] at this
      exact this
/-- What operation number i of a list waits for. -/
def waits (l : List Oper) (i : Nat) : List Nat := ((l[i]?).map fun o => (o.after.toList.filter (Region.binds .any)).map (·.on)).getD []
theorem wp_region_inv {id : Nat} {a : Act} {w : World} {l : List Oper} (hm : P.follows .mixedOrders = true) (hd : depB l.toArray = true) (I : (Nat → Bool) → Act → World → Prop)
    (h0 : I (fun i => decide (l.length ≤ i)) a w.drew)
    (hs : ∀ L a w i, i < l.length → I L a w → L i = false → (∀ d, (waits l i).contains d = true → L d = true) → wpOp P l.toArray Q i (fun a' w' => I (upd L i) a' w') a w)
    (hq : ∀ L a w, I L a w → (∀ i, L i = true) → Q .normal a w) : (Code.region id l.toArray true).wp P Q a w := by
  refine wp_region_any hm (wpAny_inv hd I (fun L a w i hi hI hL hdep => hs L a w i (by simpa using hi) hI hL (fun d hd' => ?_)) hq _ _ _ _ (by simp) (by simp) ?_)
  · unfold waits at hd'
    cases ho : l[i]? with
    | none => rw [ho] at hd'; simp at hd'
    | some o =>
      rw [ho] at hd'
      simp only [Option.map_some, Option.getD_some] at hd'
      have hm := List.contains_iff_mem.1 hd'
      obtain ⟨e, he, rfl⟩ := List.mem_map.1 hm
      obtain ⟨h1, h2⟩ := List.mem_filter.1 he
      exact hdep o (by simpa using ho) e (by simpa using h1) h2
  · have e : (fun i => (Array.replicate l.toArray.size false).getD i true) = fun i => decide (l.length ≤ i) := by
      funext i
      by_cases h : i < l.length
      · simp [Array.getD, h]
      · simp [Array.getD, h]; omega
    rw [e]
    exact h0
/-- An operation, read off the region's own list. -/
theorem op_at {l : List Oper} {i : Nat} {o : Oper} {K : Act → World → Prop} {a : Act} {w : World} (ho : l[i]? = some o)
    (h : ∀ K' : Act → World → Prop, (∀ a w, K a w → K' a w) → if Region.wanted o (yielded l.toArray a.tmps) = true then Oper.wp P o a w K' Q else K' (a.put o.dst undef) w) : wpOp P l.toArray Q i K a w :=
  wpOp_step (by simpa using ho) h
end Go.Proofs.Ytgbnkkjjgodilaa.Rg
namespace Go.Proofs.Ytgbnkkjjgodilaa.Rg
open Go.ChangeShapes Go.WideShapes Go.ChangeAt Go.RowKit
set_option linter.unusedVariables false
/-- An append onto a row of one's own. -/
theorem step_row {P : Program} {ops : Array Oper} {o : Oper} {a : Act} {w : World} {K : Act → World → Prop} {Q : Exit → Act → World → Prop} {E : Prop}
    (hg : o.guard = none) (s x : Operand) (t : TypeId) (hop : o.op = Op.call { callee := Callee.builtin Builtin.append, args := #[s, x], argTypes := #[t, t] })
    (e : TypeId) (i : TypeInfo) (z : Value) (size bytes : Nat) (h1 : P.underlying t = some (.slice e)) (h2 : P.info? e = some i) (h3 : i.zero = some z) (h4 : i.size = size) (h5 : i.bytes = bytes) (h6 : z.cells.size = size) (h7 : 0 < size)
    (base : Nat) (v : Value) (n : Nat) (xs : List Value) (hs : a.eval s = v) (hown : w.ownsRow base e size v n xs)
    (ad : Addr) (m c : Nat) (news : List Value) (hx : a.eval x = .slice (some ad) m c) (hl : news.length = m * size) (hc : ∀ j u, news[j]? = some u → w.cell? (ad.add j) = some u) (h1c : ∀ u ∈ news, u.oneCell' = true)
    (b1 : n + m ≤ maxLen) (b2 : (n + m) * bytes ≤ 140737488355328) (hb : base ≤ w.heap.size)
    (hK : ∀ v' w', w'.ownsRow base e size v' (n + m) (xs ++ news) → w.grownBy w' v.ownBlock → (v' = .slice none 0 0 ↔ v = .slice none 0 0 ∧ m = 0) → K (a.put o.dst v') w') :
    if Region.wanted o (yielded ops a.tmps) = true then Oper.wp P o a w K Q else E := by
  have hw : Region.wanted o (yielded ops a.tmps) = true := by simp [Region.wanted, hg]
  rw [if_pos hw]
  obtain ⟨v', w', hrun, r1, r2, r3⟩ := run_append_own (P := P) w base t o.type e i z size bytes h1 h2 h3 h4 h5 h6 h7 v n xs hown ad m c news hl hc h1c b1 b2 hb
  unfold Oper.wp
  simp [execOp, hop, resolve, invoke, builtin, hs, hx, hrun, Result.andThen]
  exact hK v' w' r1 r2 r3
/-- A copy: an append of all of a slice, be it nil, onto a row of one's own that has none. -/
theorem step_copy {P : Program} {ops : Array Oper} {o : Oper} {a : Act} {w : World} {K : Act → World → Prop} {Q : Exit → Act → World → Prop} {E : Prop}
    (hg : o.guard = none) (s x : Operand) (t : TypeId) (hop : o.op = Op.call { callee := Callee.builtin Builtin.append, args := #[s, x], argTypes := #[t, t] })
    (e : TypeId) (i : TypeInfo) (z : Value) (size bytes : Nat) (h1 : P.underlying t = some (.slice e)) (h2 : P.info? e = some i) (h3 : i.zero = some z) (h4 : i.size = size) (h5 : i.bytes = bytes) (h6 : z.cells.size = size) (h7 : 0 < size)
    (base g : Nat) (hs : a.eval s = .slice (some ⟨g, 0, none⟩) 0 0) (hown : w.ownsRow base e size (.slice (some ⟨g, 0, none⟩) 0 0) 0 [])
    (ao : Option Addr) (m c : Nat) (news : List Value) (hx : a.eval x = .slice ao m c) (hna : ao = none → m = 0 ∧ c = 0) (hl : news.length = m * size) (hc : ∀ ad, ao = some ad → ∀ j u, news[j]? = some u → w.cell? (ad.add j) = some u) (h1c : ∀ u ∈ news, u.oneCell' = true)
    (b1 : m ≤ maxLen) (b2 : m * bytes ≤ 140737488355328) (hb : base ≤ w.heap.size)
    (hK : ∀ v' w', w'.ownsRow base e size v' m news → w.grownBy w' (some g) → (∃ g' c', v' = .slice (some ⟨g', 0, none⟩) m c') → K (a.put o.dst v') w') :
    if Region.wanted o (yielded ops a.tmps) = true then Oper.wp P o a w K Q else E := by
  have hw : Region.wanted o (yielded ops a.tmps) = true := by simp [Region.wanted, hg]
  rw [if_pos hw]
  cases ao with
  | some ad =>
    obtain ⟨v', w', hrun, r1, r2, r3⟩ := run_append_own (P := P) w base t o.type e i z size bytes h1 h2 h3 h4 h5 h6 h7 _ 0 [] hown ad m c news hl (hc ad rfl) h1c (by omega) (by rw [Nat.zero_add]; exact b2) hb
    rw [Nat.zero_add, List.nil_append] at r1
    unfold Oper.wp
    simp [execOp, hop, resolve, invoke, builtin, hs, hx, hrun, Result.andThen]
    refine hK v' w' r1 r2 ?_
    rcases r1.2 with ⟨e1, _⟩ | ⟨g', c', cur, e1, _⟩
    · have := (r3.1 e1).1
      cases this
    · exact ⟨g', c', e1⟩
  | none =>
    obtain ⟨rfl, rfl⟩ := hna rfl
    have hn : news = [] := List.eq_nil_of_length_eq_zero (by rw [hl, Nat.zero_mul])
    subst hn
    have hrun := run_append_owned_none (P := P) (w := w) base t o.type e i size h1 h2 _ 0 [] hown
    unfold Oper.wp
    simp [execOp, hop, resolve, invoke, builtin, hs, hx, hrun, Result.andThen]
    exact hK _ w hown ⟨rfl, rfl, rfl, Nat.le_refl _, fun _ _ _ => rfl⟩ ⟨_, _, rfl⟩
theorem box_grown {w w' : World} {b : Nat} {c : Array Value} {r : Option Nat} (h : Bo.Box w b c) (k : w.grownBy w' r) (hr : r ≠ some b) : Bo.Box w' b c :=
  ⟨Nat.lt_of_lt_of_le h.lt k.size, fun i => by rw [World.cell?_of_block (w := w) (k.block b h.lt (Ne.symm hr))]; exact h.at' i, fun i => by rw [World.frozen?_of_block (w := w) (k.block b h.lt (Ne.symm hr))]; exact h.fr i⟩
theorem below_grown {w w' : World} {B : Nat} {W : World} {r : Option Nat} (h : Below B W w) (k : w.grownBy w' r) (hs : B ≤ w.heap.size) (hr : ∀ g, r = some g → B ≤ g) : Below B W w' :=
  h.trans ⟨k.os, k.tape, k.output, k.size, fun i hi => k.block i (by omega) (fun e => by have := hr i e.symm; omega)⟩
theorem below_only {w w' : World} {B c : Nat} {W : World} (h : Below B W w) (k : Only c w w') (hs : B ≤ w.heap.size) (hc : B ≤ c) : Below B W w' :=
  h.trans ⟨k.os, k.tape, k.output, k.size, fun i hi => k.block i (by omega) (fun e => by omega)⟩
theorem row_grown {w w' : World} {b e s n : Nat} {u : Value} {xs : List Value} {r : Option Nat} (hu : w.ownsRow b e s u n xs) (k : w.grownBy w' r) (hd : ∀ g, u.ownBlock = some g → r ≠ some g) : w'.ownsRow b e s u n xs := by
  refine World.ownsRow.kept hu k ?_
  cases hub : u.ownBlock with
  | none => exact .inl rfl
  | some g => exact .inr (fun e => hd g hub e.symm)
theorem row_only {w w' : World} {b e s n c : Nat} {u : Value} {xs : List Value} (hu : w.ownsRow b e s u n xs) (k : Only c w w') (hd : ∀ g, u.ownBlock = some g → g ≠ c) : w'.ownsRow b e s u n xs :=
  row_grown hu (r := some c) ⟨k.os, k.tape, k.output, k.size, fun i hi hne => k.block i hi (fun e => hne (by rw [e]))⟩ (fun g hg e => hd g hg (Option.some.inj e).symm)
theorem box_only {w w' : World} {b : Nat} {c : Array Value} {d : Nat} (h : Bo.Box w b c) (k : Only d w w') (hr : b ≠ d) : Bo.Box w' b c :=
  box_grown h (r := some d) ⟨k.os, k.tape, k.output, k.size, fun i hi hne => k.block i hi (fun e => hne (by rw [e]))⟩ (fun e => hr (Option.some.inj e).symm)
/-- A slice of one thing, in a block that is no older than lo. -/
def One (lo : Nat) (c : Array Value) (u : Value) (W : World) : Prop := ∃ bl, u = .slice (some ⟨bl, 0, none⟩) 1 1 ∧ lo ≤ bl ∧ Bo.Box W bl c
theorem One.new {W : World} {lo : Nat} (c : Array Value) (T : TypeId) (h : lo ≤ W.heap.size) : One lo c (.slice (some ⟨W.heap.size, 0, none⟩) 1 1) (W.alloc (.cells c T)) := ⟨_, rfl, h, Bo.Box.new W c T⟩
theorem One.kept {W W' : World} {lo : Nat} {c : Array Value} {u : Value} (h : One lo c u W) (k : Below W.heap.size W W') : One lo c u W' := by
  obtain ⟨bl, e, hb, b⟩ := h
  exact ⟨bl, e, hb, b.kept k⟩
theorem One.grown {W W' : World} {lo : Nat} {c : Array Value} {u : Value} {r : Option Nat} (h : One lo c u W) (k : W.grownBy W' r) (hr : ∀ g, r = some g → g < lo) : One lo c u W' := by
  obtain ⟨bl, e, hb, b⟩ := h
  exact ⟨bl, e, hb, box_grown b k (fun z => by have := hr bl z; omega)⟩
theorem One.only {W W' : World} {lo d : Nat} {c : Array Value} {u : Value} (h : One lo c u W) (k : Only d W W') (hd : d < lo) : One lo c u W' :=
  h.grown (r := some d) ⟨k.os, k.tape, k.output, k.size, fun i hi hne => k.block i hi (fun e => hne (by rw [e]))⟩ (fun g hg => by cases hg; exact hd)
/-- An empty row of one's own, in a block that is no older than lo. -/
def Mt (lo : Nat) (T : TypeId) (size : Nat) (u : Value) (W : World) : Prop := ∃ g, u = .slice (some ⟨g, 0, none⟩) 0 0 ∧ W.ownsRow lo T size u 0 []
theorem Mt.new {W : World} {lo : Nat} (T : TypeId) (size : Nat) (h : lo ≤ W.heap.size) : Mt lo T size (.slice (some ⟨W.heap.size, 0, none⟩) 0 0) (W.alloc (.cells #[] T)) := ⟨_, rfl, World.ownsRow_made W #[] 0 h (by decide) (by simp)⟩
theorem Mt.kept {W W' : World} {lo size : Nat} {T : TypeId} {u : Value} (h : Mt lo T size u W) (k : Below W.heap.size W W') : Mt lo T size u W' := by
  obtain ⟨g, e, o⟩ := h
  exact ⟨g, e, row_grown (r := none) o ⟨k.os, k.tape, k.output, k.size, fun i hi _ => k.block i hi⟩ (fun _ _ z => by cases z)⟩
theorem Mt.grown {W W' : World} {lo size : Nat} {T : TypeId} {u : Value} {r : Option Nat} (h : Mt lo T size u W) (k : W.grownBy W' r) (hr : ∀ g, u.ownBlock = some g → r ≠ some g) : Mt lo T size u W' := by
  obtain ⟨g, e, o⟩ := h
  exact ⟨g, e, row_grown o k hr⟩
theorem row_kept {w w' : World} {b e s n : Nat} {u : Value} {xs : List Value} (o : w.ownsRow b e s u n xs) (k : Below w.heap.size w w') : w'.ownsRow b e s u n xs :=
  row_grown (r := none) o ⟨k.os, k.tape, k.output, k.size, fun i hi _ => k.block i hi⟩ (fun _ _ z => by cases z)
theorem box_cells {w : World} {bl : Nat} {c : Array Value} (x : Bo.Box w bl c) : ∀ j u, c.toList[j]? = some u → w.cell? ((⟨bl, 0, none⟩ : Addr).add j) = some u := by
  intro j u hj
  have := x.at' j
  rw [Go.WideShapes.add_plain]
  simp only [Nat.zero_add]
  rw [this]
  simpa using hj
end Go.Proofs.Ytgbnkkjjgodilaa.Rg
namespace Go.Proofs.Ytgbnkkjjgodilaa.Ro
open Go.ChangeShapes Go.WideShapes Go.ChangeAt Go.RowKit
set_option linter.unusedVariables false
abbrev R5 := Int × Int × Int × Int × Int
abbrev rvt (x : R5) : Value := rv x.1 x.2.1 x.2.2.1 x.2.2.2.1 x.2.2.2.2
def newR (m o a : Int) : R5 × Bool := if rollOk 1 m o 0 a = true then ((1, m, o, 0, a), true) else ((0, 0, 0, 0, 0), false)
def stepR (p m o n a now fr : Int) : R5 × Bool :=
  if rollOk p m o n a = false then ((0, 0, 0, 0, 0), false)
  else if timB now = false ∨ now < a + 100 then ((p, m, o, n, a), false)
  else if p = 1 then (if secB fr = false ∨ fr = o ∨ fr = m then ((p, m, o, n, a), false) else ((2, m, o, fr, now), true))
  else if p = 2 then ((3, m, o, n, now), true)
  else ((1, m, n, 0, now), true)
def signR (p m o n a : Int) : Int := if rollOk p m o n a = false then 0 else if p = 3 then n else o
theorem roll_time {p m o n a : Int} (h : rollOk p m o n a = true) : 0 ≤ a ∧ a ≤ 1000000 := by
  unfold rollOk rollB timB inB at h
  simp only [Bool.and_eq_true, decide_eq_true_eq] at h
  exact h.2.2.1
set_option maxRecDepth 100000 in
set_option maxHeartbeats 4000000 in
theorem spec_NewRoll (m o a : Int) (w : World) : Calls Try.prog 20 #[.int .i64 m, .int .i64 o, .int .i64 a] w fun e w' => e = .returned (.tuple #[rvt (newR m o a).1, .bool (newR m o a).2]) ∧ Below w.heap.size w w' := by
  have C := hidIt (fun W => spec_RollOk 1 m o 0 a W)
  cases hr : rollOk 1 m o 0 a with
  | false =>
    have e : newR m o a = ((0, 0, 0, 0, 0), false) := by simp [newR, hr]
    rw [e]
    rw [hr] at C
    go_enter Try.func20, Try.ntmps20
    go_wp2_with (fail)
    refine (C.out _).mono ?_
    rintro e w1 ⟨rfl, rfl⟩
    go_wp2_with (fail)
    refine bodyPost_ret (v := .tuple #[rv 0 0 0 0 0, .bool false]) (by simp [results, Try.results20, go_sem]) rfl ⟨rfl, ?_⟩
    exact (((Below.refl w.heap.size w).alloc (Nat.le_refl _) _).alloc (by simp) _).alloc (by simp; omega) _
  | true =>
    have e : newR m o a = ((1, m, o, 0, a), true) := by simp [newR, hr]
    rw [e]
    rw [hr] at C
    go_enter Try.func20, Try.ntmps20
    go_wp2_with (fail)
    refine (C.out _).mono ?_
    rintro e w1 ⟨rfl, rfl⟩
    go_wp2_with (fail)
    refine bodyPost_ret (v := .tuple #[rv 1 m o 0 a, .bool true]) (by simp [results, Try.results20, go_sem]) rfl ⟨rfl, ?_⟩
    exact ((((Below.refl w.heap.size w).alloc (Nat.le_refl _) _).alloc (by simp) _).alloc (by simp; omega) _)
end Go.Proofs.Ytgbnkkjjgodilaa.Ro
