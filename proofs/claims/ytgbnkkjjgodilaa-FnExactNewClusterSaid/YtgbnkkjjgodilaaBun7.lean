/-
  markNode of the laws: a Node of the call's own is marked: its four rows alone turn.
  toNode of the laws: a copy of a Node. (Written by wip/mkNod.py.)
  A list of Nodes as it lies in memory: ten cells each, four of them slices; one that is read, one of the call's own. (Written by wip/mkNs.py.)
  A Cluster in memory: three cells, two of them slices. (Written by wip/mkKc.py.)
  szNodeS and eqNodeS of the laws. (Written by wip/mkNs.py.)
-/
import Derived.Test.YtgbnkkjjgodilaaBun6
import Derived.Test.YtgbnkkjjgodilaaBun4
import Derived.Test.YtgbnkkjjgodilaaBun3
import Derived.Test.YtgbnkkjjgodilaaMem2N
import Derived.Test.YtgbnkkjjgodilaaBucN
import Derived.Test.YtgbnkkjjgodilaaLogQ
import Derived.Test.YtgbnkkjjgodilaaBoxM
import Derived.Test.YtgbnkkjjgodilaaQuiet
namespace Go.Proofs.Ytgbnkkjjgodilaa.Nd
open Go.ChangeShapes Go.WideShapes Go.ChangeAt Go.RowKit
open Go.Proofs.Ytgbnkkjjgodilaa.Vv (Sl sv hidIt)
open Go.Proofs.Ytgbnkkjjgodilaa.Rp (OnlyIn own_apart row_other)
set_option linter.unusedVariables false
/-- What a mark leaves: blocks from lo up to hi alone turn; rows of other elements than those of the list stay. -/
structure Mk (ts : List Nat) (lo hi : Nat) (w w' : World) : Prop where
  only : OnlyIn lo hi w w'
  stay : ∀ (b e s n : Nat) (v : Value) (xs : List Value), w.ownsRow b e s v n xs → e ∉ ts → w'.ownsRow b e s v n xs
theorem Mk.trans {ts us : List Nat} {lo hi : Nat} {a b d : World} (h : Mk ts lo hi a b) (k : Mk us lo hi b d) : Mk (ts ++ us) lo hi a d :=
  ⟨h.only.trans k.only, fun p e s n v xs r hn => k.stay p e s n v xs (h.stay p e s n v xs r (fun q => hn (List.mem_append_left _ q))) (fun q => hn (List.mem_append_right _ q))⟩
theorem Mk.of_below {lo hi : Nat} {w w' : World} (h : Below w.heap.size w w') : Mk [] lo hi w w' :=
  ⟨.of_below h, fun b e s n v xs r _ => World.ownsRow.kept (row := none) r ⟨h.os, h.tape, h.output, h.size, fun i hi _ => h.block i hi⟩ (by cases v.ownBlock <;> simp)⟩
theorem Mk.of_row {b e s n lo hi : Nat} {v : Value} {xs : List Value} {w w' : World} (r : w.ownsRow b e s v n xs) (Y : Only (v.ownBlock.getD w.heap.size) w w') (hb : lo ≤ b) (hh : ∀ g, v.ownBlock = some g → g < hi) : Mk [e] lo hi w w' := by
  refine ⟨.of_only Y ?_, fun b' e' s' n' v' xs' r' hn => row_other r' r Y (own_apart r' r (fun q => hn (by rw [q]; simp)))⟩
  cases hv : v.ownBlock with
  | none => exact .inl (by simp)
  | some g =>
    have := (World.ownsRow.lt r g hv).1
    exact .inr ⟨by simpa using (by omega : lo ≤ g), by simpa using hh g hv⟩
theorem Mk.box {ts : List Nat} {lo hi b : Nat} {c : Array Value} {w w' : World} (h : Mk ts lo hi w w') (x : Bo.Box w b c) (hb : hi ≤ b) : Bo.Box w' b c :=
  ⟨Nat.lt_of_lt_of_le x.lt h.only.size, fun i => by rw [World.cell?_of_block (w := w) (h.only.block b x.lt (by omega))]; exact x.at' i, fun i => by rw [World.frozen?_of_block (w := w) (h.only.block b x.lt (by omega))]; exact x.fr i⟩
/-- The blocks of a value's row lie below hi. -/
abbrev Lo (hi : Nat) (v : Value) : Prop := ∀ g, v.ownBlock = some g → g < hi
end Go.Proofs.Ytgbnkkjjgodilaa.Nd
namespace Go.Proofs.Ytgbnkkjjgodilaa.Nd
open Go.ChangeShapes Go.WideShapes Go.ChangeAt Go.RowKit
open Go.Proofs.Ytgbnkkjjgodilaa.Vv (Sl sv hidIt)
set_option linter.unusedVariables false
end Go.Proofs.Ytgbnkkjjgodilaa.Nd
namespace Go.Proofs.Ytgbnkkjjgodilaa.Ns
open Go.ChangeShapes Go.WideShapes Go.ChangeAt Go.RowKit
open Go.Proofs.Ytgbnkkjjgodilaa.Vv (Sl sv hidIt)
open Go.Proofs.Ytgbnkkjjgodilaa.Nd (Nw RdN OwnN)
open Go.Proofs.Ytgbnkkjjgodilaa.Rp (OnlyIn own_apart row_in row_other)
set_option linter.unusedVariables false
def zN : Nw := ⟨[], [], 0, 0, 0, 0, 0, [], [], ByteArray.empty⟩
def nod (L : List Nw) (i : Nat) : Nw := L.getD i zN
theorem nod_at {L : List Nw} {i : Nat} (h : i < L.length) : nod L i = L[i] := by
  unfold nod
  rw [List.getD_eq_getElem?_getD, List.getElem?_eq_getElem h]
  rfl
theorem nod_mem {L : List Nw} {i : Nat} (h : i < L.length) : nod L i ∈ L := by rw [nod_at h]; exact List.getElem_mem h
theorem nod_set {L : List Nw} {i j : Nat} {x : Nw} (h : i < L.length) : nod (L.set i x) j = if i = j then x else nod L j := by
  unfold nod
  rw [List.getD_eq_getElem?_getD, List.getD_eq_getElem?_getD, List.getElem?_set]
  by_cases e : i = j
  · rw [if_pos e, if_pos e, if_pos h]; rfl
  · rw [if_neg e, if_neg e]
theorem nod_app {L M : List Nw} {i : Nat} (h : i < L.length) : nod (L ++ M) i = nod L i := by
  unfold nod
  rw [List.getD_eq_getElem?_getD, List.getD_eq_getElem?_getD, List.getElem?_append_left h]
theorem nod_last (L : List Nw) (x : Nw) : nod (L ++ [x]) L.length = x := by
  unfold nod
  rw [List.getD_eq_getElem?_getD, List.getElem?_append_right (Nat.le_refl _)]
  simp
theorem nod_take {L : List Nw} {k i : Nat} (h : i < k) : nod (L.take k) i = nod L i := by
  unfold nod
  rw [List.getD_eq_getElem?_getD, List.getD_eq_getElem?_getD, List.getElem?_take_of_lt h]
theorem take_nod {L : List Nw} {i : Nat} (h : i < L.length) : L.take (i + 1) = L.take i ++ [nod L i] := by
  rw [List.take_add_one, List.getElem?_eq_getElem h, nod_at h]
  rfl
theorem ext_nod {L M : List Nw} (h : L.length = M.length) (e : ∀ i, i < L.length → nod L i = nod M i) : L = M := by
  apply List.ext_getElem h
  intro i h1 h2
  rw [← nod_at h1, ← nod_at h2, e i h1]
/-- A Node's cells, as they lie in a row. -/
abbrev nrw (x : Nw) (e m b g : Sl) : Nv.Rw := (e, m, x.ph, x.mn, x.ol, x.nw, x.tm, b, g, x.apex)
/-- Its four slices. -/
def sl4 (r : Nv.Rw) : Nat → Sl
  | 0 => r.1
  | 1 => r.2.1
  | 2 => r.2.2.2.2.2.2.2.1
  | _ => r.2.2.2.2.2.2.2.2.1
structure RdC (w : World) (a : Option Addr) (C : List Nv.Rw) (L : List Nw) : Prop where
  len : C.length = L.length
  row : Nv.Rd w a C
  fl : ∀ i, i < L.length → Nv.rat C i = nrw (nod L i) (sl4 (Nv.rat C i) 0) (sl4 (Nv.rat C i) 1) (sl4 (Nv.rat C i) 2) (sl4 (Nv.rat C i) 3)
  nd : ∀ i, i < L.length → RdN w (nod L i) (sl4 (Nv.rat C i) 0) (sl4 (Nv.rat C i) 1) (sl4 (Nv.rat C i) 2) (sl4 (Nv.rat C i) 3)
def Rd (w : World) (a : Option Addr) (L : List Nw) : Prop := ∃ C, RdC w a C L
theorem Rd.kept {w w' : World} {a : Option Addr} {L : List Nw} (h : Rd w a L) (k : Below w.heap.size w w') : Rd w' a L := by
  obtain ⟨C, h⟩ := h
  exact ⟨C, h.len, h.row.kept k, h.fl, fun i hi => (h.nd i hi).kept k⟩
theorem Rd.nil (w : World) (a : Option Addr) : Rd w a [] := ⟨[], rfl, Nv.Rd.nil _ _, fun i hi => absurd hi (Nat.not_lt_zero _), fun i hi => absurd hi (Nat.not_lt_zero _)⟩
theorem Rd.one {w : World} {a : Option Addr} {L : List Nw} (h : Rd w a L) {i : Nat} (hi : i < L.length) : ∃ (q off : Nat) (e m b g : Sl), a = some ⟨q, off, none⟩ ∧ w.cell? ⟨q, off + i * 10, none⟩ = some (sv e) ∧ w.cell? ⟨q, off + i * 10 + 1, none⟩ = some (sv m) ∧ w.cell? ⟨q, off + i * 10 + 2, none⟩ = some (.int .i64 (nod L i).ph) ∧ w.cell? ⟨q, off + i * 10 + 3, none⟩ = some (.int .i64 (nod L i).mn) ∧ w.cell? ⟨q, off + i * 10 + 4, none⟩ = some (.int .i64 (nod L i).ol) ∧ w.cell? ⟨q, off + i * 10 + 5, none⟩ = some (.int .i64 (nod L i).nw) ∧ w.cell? ⟨q, off + i * 10 + 6, none⟩ = some (.int .i64 (nod L i).tm) ∧ w.cell? ⟨q, off + i * 10 + 7, none⟩ = some (sv b) ∧ w.cell? ⟨q, off + i * 10 + 8, none⟩ = some (sv g) ∧ w.cell? ⟨q, off + i * 10 + 9, none⟩ = some (.string (nod L i).apex) ∧ RdN w (nod L i) e m b g := by
  obtain ⟨C, h⟩ := h
  obtain ⟨q, off, e, c0, c1, c2, c3, c4, c5, c6, c7, c8, c9⟩ := h.row.all (i := i) (by rw [h.len]; exact hi)
  have f := h.fl i hi
  have n := h.nd i hi
  generalize Nv.rat C i = r at *
  rw [f] at c0 c1 c2 c3 c4 c5 c6 c7 c8 c9
  exact ⟨q, off, sl4 r 0, sl4 r 1, sl4 r 2, sl4 r 3, e, c0, c1, c2, c3, c4, c5, c6, c7, c8, c9, n⟩
theorem Rd.addr {w : World} {a : Option Addr} {L : List Nw} (h : Rd w a L) (hn : 0 < L.length) : ∃ b off, a = some ⟨b, off, none⟩ := by
  obtain ⟨b, off, _, _, _, _, e, _⟩ := h.one hn
  exact ⟨b, off, e⟩
/-- A Node's rows, by its cells. -/
abbrev OwnR (w : World) (lo : Nat) (r : Nv.Rw) (x : Nw) : Prop := OwnN w lo x (sl4 r 0) (sl4 r 1) (sl4 r 2) (sl4 r 3)
theorem OwnR.lt {w : World} {lo : Nat} {r : Nv.Rw} {x : Nw} (h : OwnR w lo r x) (t g : Nat) (hg : (sv (sl4 r t)).ownBlock = some g) : lo ≤ g ∧ g < w.heap.size := by
  match t, hg with
  | 0, hg => exact World.ownsRow.lt h.e g hg
  | 1, hg => exact World.ownsRow.lt h.m g hg
  | 2, hg => exact World.ownsRow.lt h.b g hg
  | k + 3, hg => exact World.ownsRow.lt h.g g hg
theorem OwnR.mono {w : World} {lo lo' : Nat} {r : Nv.Rw} {x : Nw} (h : OwnR w lo r x) (k : lo' ≤ lo) : OwnR w lo' r x := ⟨h.e.mono k, h.m.mono k, h.b.mono k, h.g.mono k⟩
theorem OwnR.in {w w' : World} {lo a b : Nat} {r : Nv.Rw} {x : Nw} (h : OwnR w lo r x) (Y : OnlyIn a b w w') (hd : ∀ t g, (sv (sl4 r t)).ownBlock = some g → ¬ (a ≤ g ∧ g < b)) : OwnR w' lo r x :=
  ⟨row_in h.e Y (hd 0), row_in h.m Y (hd 1), row_in h.b Y (hd 2), row_in h.g Y (hd 3)⟩
/-- Rows of Nodes lie in other blocks than what a Node has. -/
theorem OwnR.far {w : World} {lo lo' : Nat} {r : Nv.Rw} {x : Nw} {v : Value} {C : List Nv.Rw} (h : OwnR w lo r x) (hv : Nv.Own w lo' v C) (t g : Nat) (hg : (sv (sl4 r t)).ownBlock = some g) : v.ownBlock ≠ some g := by
  match t, hg with
  | 0, hg => exact own_apart h.e hv (by decide) g hg
  | 1, hg => exact own_apart h.m hv (by decide) g hg
  | 2, hg => exact own_apart h.b hv (by decide) g hg
  | k + 3, hg => exact own_apart h.g hv (by decide) g hg
/-- A list of Nodes of the call's own, in blocks from lo up to hi. -/
structure OwnC (w : World) (lo hi : Nat) (v : Value) (C : List Nv.Rw) (L : List Nw) : Prop where
  len : C.length = L.length
  row : Nv.Own w lo v C
  blk : ∀ g, v.ownBlock = some g → g < hi
  fl : ∀ i, i < L.length → Nv.rat C i = nrw (nod L i) (sl4 (Nv.rat C i) 0) (sl4 (Nv.rat C i) 1) (sl4 (Nv.rat C i) 2) (sl4 (Nv.rat C i) 3)
  nd : ∀ i, i < L.length → OwnR w lo (Nv.rat C i) (nod L i)
  bd : ∀ i, i < L.length → ∀ t g, (sv (sl4 (Nv.rat C i) t)).ownBlock = some g → g < hi
  dj : ∀ i j, i < L.length → j < L.length → i ≠ j → ∀ t g, (sv (sl4 (Nv.rat C i) t)).ownBlock = some g → (sv (sl4 (Nv.rat C j) t)).ownBlock ≠ some g
  hi' : hi ≤ w.heap.size
  lo' : lo ≤ hi
def Own (w : World) (lo hi : Nat) (v : Value) (L : List Nw) : Prop := ∃ C, OwnC w lo hi v C L
theorem Own.rd {w : World} {lo hi : Nat} {L : List Nw} {a : Option Addr} {m cap : Nat} (h : Own w lo hi (.slice a m cap) L) : Rd w a L := by
  obtain ⟨C, h⟩ := h
  obtain ⟨a', c', e', _, _, r, _⟩ := h.row.form
  obtain ⟨rfl, _, _⟩ := Value.slice.inj e'
  exact ⟨C, h.len, r, h.fl, fun i hi => (h.nd i hi).rd⟩
theorem Own.form {w : World} {lo hi : Nat} {v : Value} {L : List Nw} (h : Own w lo hi v L) : ∃ a cap, v = .slice a L.length cap ∧ L.length ≤ cap ∧ cap ≤ 9223372036854775807 ∧ (a = none → cap = 0) := by
  obtain ⟨C, h⟩ := h
  obtain ⟨a', c', e', h1, h2, _, h4, _⟩ := h.row.form
  rw [h.len] at e' h1
  exact ⟨a', c', e', h1, h2, h4⟩
theorem Own.formN {w : World} {lo hi m : Nat} {v : Value} {L : List Nw} (h : Own w lo hi v L) (hn : L.length = m) : ∃ a cap, v = .slice a m cap ∧ m ≤ cap ∧ cap ≤ 9223372036854775807 ∧ (a = none → cap = 0) := by
  subst hn
  exact h.form
theorem OwnC.kept {w w' : World} {lo hi : Nat} {v : Value} {C : List Nv.Rw} {L : List Nw} (h : OwnC w lo hi v C L) (k : Below w.heap.size w w') : OwnC w' lo hi v C L :=
  ⟨h.len, h.row.kept k, h.blk, h.fl, fun i hi => (h.nd i hi).kept k, h.bd, h.dj, Nat.le_trans h.hi' k.size, h.lo'⟩
theorem Own.kept {w w' : World} {lo hi : Nat} {v : Value} {L : List Nw} (h : Own w lo hi v L) (k : Below w.heap.size w w') : Own w' lo hi v L := by
  obtain ⟨C, h⟩ := h
  exact ⟨C, h.kept k⟩
/-- What turns in other blocks leaves it. -/
theorem OwnC.apart {w w' : World} {lo hi lo' hi' : Nat} {v : Value} {C : List Nv.Rw} {L : List Nw} (h : OwnC w lo hi v C L) (Y : OnlyIn lo' hi' w w') (hd : hi ≤ lo' ∨ hi' ≤ lo) : OwnC w' lo hi v C L :=
  ⟨h.len, row_in h.row Y (fun g hg => by have h1 := (World.ownsRow.lt h.row g hg).1; have h2 := h.blk g hg; omega), h.blk, h.fl,
   fun i hi => (h.nd i hi).in Y (fun t g hg => by have h1 := ((h.nd i hi).lt t g hg).1; have h2 := h.bd i hi t g hg; omega), h.bd, h.dj, Nat.le_trans h.hi' Y.size, h.lo'⟩
theorem Own.apart {w w' : World} {lo hi lo' hi' : Nat} {v : Value} {L : List Nw} (h : Own w lo hi v L) (Y : OnlyIn lo' hi' w w') (hd : hi ≤ lo' ∨ hi' ≤ lo) : Own w' lo hi v L := by
  obtain ⟨C, h⟩ := h
  exact ⟨C, h.apart Y hd⟩
theorem Own.mono {w : World} {lo hi lo2 hi2 : Nat} {v : Value} {L : List Nw} (h : Own w lo hi v L) (h1 : lo2 ≤ lo) (h2 : hi ≤ hi2) (h3 : hi2 ≤ w.heap.size) : Own w lo2 hi2 v L := by
  obtain ⟨C, h⟩ := h
  exact ⟨C, h.len, h.row.mono h1, fun g hg => Nat.lt_of_lt_of_le (h.blk g hg) h2, h.fl, fun i hi => (h.nd i hi).mono h1, fun i hi t g hg => Nat.lt_of_lt_of_le (h.bd i hi t g hg) h2, h.dj, h3, by have := h.lo'; omega⟩
theorem Own.lo_le {w : World} {lo hi : Nat} {v : Value} {L : List Nw} (h : Own w lo hi v L) : lo ≤ hi ∧ hi ≤ w.heap.size := by
  obtain ⟨C, h⟩ := h
  exact ⟨h.lo', h.hi'⟩
theorem Own.grow {w : World} {lo hi : Nat} {v : Value} {L : List Nw} (h : Own w lo hi v L) : Own w lo w.heap.size v L := h.mono (Nat.le_refl _) h.lo_le.2 (Nat.le_refl _)
theorem Own.ofNil (w : World) {lo hi : Nat} (h1 : lo ≤ hi) (h2 : hi ≤ w.heap.size) : Own w lo hi (.slice none 0 0) [] :=
  ⟨[], rfl, Nv.Own.ofNil w lo, fun g hg => (by cases hg), fun i hi => absurd hi (Nat.not_lt_zero _), fun i hi => absurd hi (Nat.not_lt_zero _), fun i hi => absurd hi (Nat.not_lt_zero _), fun i j hi => absurd hi (Nat.not_lt_zero _), h2, h1⟩
theorem setTen_only {w : World} {g i : Nat} {v0 v1 v2 v3 v4 v5 v6 v7 v8 v9 : Value} : Only g w (((((((((((w).setCell ⟨g, i * 10, none⟩ (v0)).setCell ⟨g, i * 10 + 1, none⟩ (v1)).setCell ⟨g, i * 10 + 2, none⟩ (v2)).setCell ⟨g, i * 10 + 3, none⟩ (v3)).setCell ⟨g, i * 10 + 4, none⟩ (v4)).setCell ⟨g, i * 10 + 5, none⟩ (v5)).setCell ⟨g, i * 10 + 6, none⟩ (v6)).setCell ⟨g, i * 10 + 7, none⟩ (v7)).setCell ⟨g, i * 10 + 8, none⟩ (v8)).setCell ⟨g, i * 10 + 9, none⟩ (v9)) :=
  ((((((((((Only.refl g w).setCell (i * 10) v0).setCell (i * 10 + 1) v1).setCell (i * 10 + 2) v2).setCell (i * 10 + 3) v3).setCell (i * 10 + 4) v4).setCell (i * 10 + 5) v5).setCell (i * 10 + 6) v6).setCell (i * 10 + 7) v7).setCell (i * 10 + 8) v8).setCell (i * 10 + 9) v9
/-- A Node, younger than all that is there, put in at place i. -/
theorem OwnC.put {w : World} {lo hi q n cap i : Nat} {C : List Nv.Rw} {L : List Nw} (h : OwnC w lo hi (.slice (some ⟨q, 0, none⟩) n cap) C L) (hi' : i < L.length) {x : Nw} {e m b g : Sl} (o : OwnN w hi x e m b g) :
    OwnC (((((((((((w).setCell ⟨q, i * 10, none⟩ (sv e)).setCell ⟨q, i * 10 + 1, none⟩ (sv m)).setCell ⟨q, i * 10 + 2, none⟩ (.int .i64 x.ph)).setCell ⟨q, i * 10 + 3, none⟩ (.int .i64 x.mn)).setCell ⟨q, i * 10 + 4, none⟩ (.int .i64 x.ol)).setCell ⟨q, i * 10 + 5, none⟩ (.int .i64 x.nw)).setCell ⟨q, i * 10 + 6, none⟩ (.int .i64 x.tm)).setCell ⟨q, i * 10 + 7, none⟩ (sv b)).setCell ⟨q, i * 10 + 8, none⟩ (sv g)).setCell ⟨q, i * 10 + 9, none⟩ (.string x.apex)) lo w.heap.size (.slice (some ⟨q, 0, none⟩) n cap) (C.set i (nrw x e m b g)) (L.set i x) := by
  have hC : i < C.length := by rw [h.len]; exact hi'
  have Y := setTen_only (w := w) (g := q) (i := i) (v0 := sv e) (v1 := sv m) (v2 := .int .i64 x.ph) (v3 := .int .i64 x.mn) (v4 := .int .i64 x.ol) (v5 := .int .i64 x.nw) (v6 := .int .i64 x.tm) (v7 := sv b) (v8 := sv g) (v9 := .string x.apex)
  have W := h.row.whole hC (nrw x e m b g)
  have hlo := h.lo'
  generalize hw' : ((((((((((w).setCell ⟨q, i * 10, none⟩ (sv e)).setCell ⟨q, i * 10 + 1, none⟩ (sv m)).setCell ⟨q, i * 10 + 2, none⟩ (.int .i64 x.ph)).setCell ⟨q, i * 10 + 3, none⟩ (.int .i64 x.mn)).setCell ⟨q, i * 10 + 4, none⟩ (.int .i64 x.ol)).setCell ⟨q, i * 10 + 5, none⟩ (.int .i64 x.nw)).setCell ⟨q, i * 10 + 6, none⟩ (.int .i64 x.tm)).setCell ⟨q, i * 10 + 7, none⟩ (sv b)).setCell ⟨q, i * 10 + 8, none⟩ (sv g)).setCell ⟨q, i * 10 + 9, none⟩ (.string x.apex) = w' at Y
  have W' : Nv.Own w' lo (.slice (some ⟨q, 0, none⟩) n cap) (C.set i (nrw x e m b g)) := by rw [← hw']; exact W
  clear W hw'
  have Z : OnlyIn q (q + 1) w w' := OnlyIn.of_only Y (.inr ⟨Nat.le_refl _, Nat.lt_succ_self _⟩)
  have hq : (Value.slice (some ⟨q, 0, none⟩) n cap).ownBlock = some q := rfl
  have K : ∀ {lo' : Nat} {r : Nv.Rw} {y : Nw}, OwnR w lo' r y → OwnR w' lo' r y := fun hr => hr.in Z (fun t g' hg' hz => hr.far h.row t g' hg' (by rw [hq]; congr 1; omega))
  have O : OwnR w hi (nrw x e m b g) x := o
  refine ⟨by rw [List.length_set, List.length_set]; exact h.len, W', fun y hy => Nat.lt_of_lt_of_le (h.blk y hy) h.hi', fun j hj => ?_, fun j hj => ?_, fun j hj t y hy => ?_, fun j k hj hk hne t y hy hz => ?_, Y.size, Nat.le_trans hlo h.hi'⟩
  all_goals rw [List.length_set] at hj
  · rw [Nv.rat_set hC, nod_set hi']
    by_cases e' : i = j
    · rw [if_pos e', if_pos e']
      rfl
    · rw [if_neg e', if_neg e']
      exact h.fl j hj
  · rw [Nv.rat_set hC, nod_set hi']
    by_cases e' : i = j
    · rw [if_pos e', if_pos e']
      exact (K O).mono hlo
    · rw [if_neg e', if_neg e']
      exact K (h.nd j hj)
  · rw [Nv.rat_set hC] at hy
    by_cases e' : i = j
    · rw [if_pos e'] at hy
      exact (O.lt t y hy).2
    · rw [if_neg e'] at hy
      exact Nat.lt_of_lt_of_le (h.bd j hj t y hy) h.hi'
  · rw [List.length_set] at hk
    rw [Nv.rat_set hC] at hy hz
    by_cases e' : i = j
    · rw [if_pos e'] at hy
      rw [if_neg (by omega)] at hz
      have h1 := (O.lt t y hy).1
      have h2 := h.bd k hk t y hz
      omega
    · rw [if_neg e'] at hy
      by_cases e2 : i = k
      · rw [if_pos e2] at hz
        have h1 := (O.lt t y hz).1
        have h2 := h.bd j hj t y hy
        omega
      · rw [if_neg e2] at hz
        exact h.dj j k hj hk hne t y hy hz
theorem Own.put {w : World} {lo hi q n cap i : Nat} {L : List Nw} (h : Own w lo hi (.slice (some ⟨q, 0, none⟩) n cap) L) (hi' : i < L.length) {x : Nw} {e m b g : Sl} (o : OwnN w hi x e m b g) :
    Own (((((((((((w).setCell ⟨q, i * 10, none⟩ (sv e)).setCell ⟨q, i * 10 + 1, none⟩ (sv m)).setCell ⟨q, i * 10 + 2, none⟩ (.int .i64 x.ph)).setCell ⟨q, i * 10 + 3, none⟩ (.int .i64 x.mn)).setCell ⟨q, i * 10 + 4, none⟩ (.int .i64 x.ol)).setCell ⟨q, i * 10 + 5, none⟩ (.int .i64 x.nw)).setCell ⟨q, i * 10 + 6, none⟩ (.int .i64 x.tm)).setCell ⟨q, i * 10 + 7, none⟩ (sv b)).setCell ⟨q, i * 10 + 8, none⟩ (sv g)).setCell ⟨q, i * 10 + 9, none⟩ (.string x.apex)) lo w.heap.size (.slice (some ⟨q, 0, none⟩) n cap) (L.set i x) := by
  obtain ⟨C, h⟩ := h
  exact ⟨_, h.put hi' o⟩
/-- What is read and written at place i. -/
theorem Own.cells {w : World} {lo hi q n cap i : Nat} {L : List Nw} (h : Own w lo hi (.slice (some ⟨q, 0, none⟩) n cap) L) (hi' : i < L.length) : ∃ e m b g : Sl, w.cell? ⟨q, i * 10, none⟩ = some (sv e) ∧ w.cell? ⟨q, i * 10 + 1, none⟩ = some (sv m) ∧ w.cell? ⟨q, i * 10 + 2, none⟩ = some (.int .i64 (nod L i).ph) ∧ w.cell? ⟨q, i * 10 + 3, none⟩ = some (.int .i64 (nod L i).mn) ∧ w.cell? ⟨q, i * 10 + 4, none⟩ = some (.int .i64 (nod L i).ol) ∧ w.cell? ⟨q, i * 10 + 5, none⟩ = some (.int .i64 (nod L i).nw) ∧ w.cell? ⟨q, i * 10 + 6, none⟩ = some (.int .i64 (nod L i).tm) ∧ w.cell? ⟨q, i * 10 + 7, none⟩ = some (sv b) ∧ w.cell? ⟨q, i * 10 + 8, none⟩ = some (sv g) ∧ w.cell? ⟨q, i * 10 + 9, none⟩ = some (.string (nod L i).apex) ∧ w.frozen? ⟨q, i * 10, none⟩ = false ∧ w.frozen? ⟨q, i * 10 + 1, none⟩ = false ∧ w.frozen? ⟨q, i * 10 + 2, none⟩ = false ∧ w.frozen? ⟨q, i * 10 + 3, none⟩ = false ∧ w.frozen? ⟨q, i * 10 + 4, none⟩ = false ∧ w.frozen? ⟨q, i * 10 + 5, none⟩ = false ∧ w.frozen? ⟨q, i * 10 + 6, none⟩ = false ∧ w.frozen? ⟨q, i * 10 + 7, none⟩ = false ∧ w.frozen? ⟨q, i * 10 + 8, none⟩ = false ∧ w.frozen? ⟨q, i * 10 + 9, none⟩ = false ∧ OwnN w lo (nod L i) e m b g := by
  obtain ⟨C, h⟩ := h
  have hC : i < C.length := by rw [h.len]; exact hi'
  have c0 := h.row.at hC (j := 0) (by omega)
  have c1 := h.row.at hC (j := 1) (by omega)
  have c2 := h.row.at hC (j := 2) (by omega)
  have c3 := h.row.at hC (j := 3) (by omega)
  have c4 := h.row.at hC (j := 4) (by omega)
  have c5 := h.row.at hC (j := 5) (by omega)
  have c6 := h.row.at hC (j := 6) (by omega)
  have c7 := h.row.at hC (j := 7) (by omega)
  have c8 := h.row.at hC (j := 8) (by omega)
  have c9 := h.row.at hC (j := 9) (by omega)
  simp only [Nv.rcell, Nat.add_zero] at c0 c1 c2 c3 c4 c5 c6 c7 c8 c9
  have f := h.fl i hi'
  have n := h.nd i hi'
  generalize Nv.rat C i = r at f n c0 c1 c2 c3 c4 c5 c6 c7 c8 c9
  rw [f] at c0 c1 c2 c3 c4 c5 c6 c7 c8 c9
  exact ⟨sl4 r 0, sl4 r 1, sl4 r 2, sl4 r 3, c0, c1, c2, c3, c4, c5, c6, c7, c8, c9, h.row.free _, h.row.free _, h.row.free _, h.row.free _, h.row.free _, h.row.free _, h.row.free _, h.row.free _, h.row.free _, h.row.free _, n⟩
/-- A row that is made: nothing in any place. -/
theorem Own.made {w : World} {lo n : Nat} {v : Value} (h : Nv.Own w lo v (List.replicate n ((none, 0, 0), (none, 0, 0), 0, 0, 0, 0, 0, (none, 0, 0), (none, 0, 0), ByteArray.empty))) (hl : lo ≤ w.heap.size) : Own w lo w.heap.size v (List.replicate n zN) := by
  have ev : ∀ i, Nv.rat (List.replicate n (((none, 0, 0), (none, 0, 0), 0, 0, 0, 0, 0, (none, 0, 0), (none, 0, 0), ByteArray.empty) : Nv.Rw)) i = ((none, 0, 0), (none, 0, 0), 0, 0, 0, 0, 0, (none, 0, 0), (none, 0, 0), ByteArray.empty) := fun i => by
    unfold Nv.rat
    rw [List.getD_eq_getElem?_getD, List.getElem?_replicate]
    split <;> rfl
  have er : ∀ i, nod (List.replicate n zN) i = zN := fun i => by
    unfold nod
    rw [List.getD_eq_getElem?_getD, List.getElem?_replicate]
    split <;> rfl
  refine ⟨_, by simp, h, fun g hg => (World.ownsRow.lt h g hg).2, fun i _ => by rw [ev, er]; rfl, fun i _ => by rw [ev, er]; exact ⟨En.Own.ofNil _ _, Mm.Own.ofNil _ _, Bu.Own.ofNil _ _, World.ownsRow_nil _ _ _ _⟩, fun i _ t g hg => ?_, fun i j _ _ _ t g hg => ?_, Nat.le_refl _, hl⟩
  all_goals
    rw [ev] at hg
    match t, hg with
    | 0, hg => cases hg
    | 1, hg => cases hg
    | 2, hg => cases hg
    | k + 3, hg => cases hg
end Go.Proofs.Ytgbnkkjjgodilaa.Ns
namespace Go.Proofs.Ytgbnkkjjgodilaa.Kc
open Go.ChangeShapes Go.WideShapes Go.ChangeAt Go.RowKit
open Go.Proofs.Ytgbnkkjjgodilaa.Vv (Sl sv hidIt)
open Go.Proofs.Ytgbnkkjjgodilaa.Nd (Nw RdN OwnN ShortN SmallN)
set_option linter.unusedVariables false
structure Cw where
  now : Int
  nodes : List Nw
  clock : List Int
/-- What its slices read as. -/
structure RdK (w : World) (c : Cw) (n k : Sl) : Prop where
  nl : n.2.1 = c.nodes.length
  nr : Ns.Rd w n.1 c.nodes
  nc : c.nodes.length ≤ 9223372036854775807
  kl : k.2.1 = c.clock.length
  kr : Iv.Rd w k.1 c.clock
  kc : c.clock.length ≤ 9223372036854775807
theorem RdK.kept {w w' : World} {c : Cw} {n k : Sl} (h : RdK w c n k) (q : Below w.heap.size w w') : RdK w' c n k := ⟨h.nl, h.nr.kept q, h.nc, h.kl, h.kr.kept q, h.kc⟩
abbrev kc (c : Cw) (n k : Sl) : Array Value := #[.int .i64 c.now, sv n, sv k]
abbrev kv (c : Cw) (n k : Sl) : Value := .agg (kc c n k)
/-- No text is longer than a text may be. -/
def ShortK (c : Cw) : Prop := ∀ i, i < c.nodes.length → ShortN (Ns.nod c.nodes i)
/-- It is not too great. -/
structure SmallK (c : Cw) : Prop where
  n : c.nodes.length ≤ 1048576
  nd : ∀ i, i < c.nodes.length → SmallN (Ns.nod c.nodes i)
  k : c.clock.length ≤ 1048576
/-- A Cluster of the call's own, in blocks from lo up to hi. -/
structure OwnK (w : World) (lo hi : Nat) (c : Cw) (n k : Sl) : Prop where
  on : Ns.Own w lo hi (sv n) c.nodes
  ok : Iv.Own w lo (sv k) c.clock
  b : ∀ g, (sv k).ownBlock = some g → g < hi
theorem OwnK.kept {w w' : World} {lo hi : Nat} {c : Cw} {n k : Sl} (h : OwnK w lo hi c n k) (q : Below w.heap.size w w') : OwnK w' lo hi c n k := ⟨h.on.kept q, h.ok.kept q, h.b⟩
theorem OwnK.rd {w : World} {lo hi : Nat} {c : Cw} {n k : Sl} (h : OwnK w lo hi c n k) : RdK w c n k := by
  obtain ⟨n0, n1, n2⟩ := n
  obtain ⟨k0, k1, k2⟩ := k
  obtain ⟨a, cp, e, l1, l2, _⟩ := h.on.form
  obtain ⟨a', cp', e', l1', l2', r', _⟩ := h.ok.form
  have z := h.on
  simp only [sv, Value.slice.injEq] at e e'
  obtain ⟨rfl, rfl, rfl⟩ := e
  obtain ⟨rfl, rfl, rfl⟩ := e'
  unfold maxLen at l2'
  exact ⟨rfl, z.rd, by omega, rfl, r', by omega⟩
def KluP (w : World) (c : Cw) (en : Ending) (w' : World) : Prop := ∃ n k : Sl, en = .returned (kv c n k) ∧ OwnK w' w.heap.size w'.heap.size c n k ∧ Below w.heap.size w w'
theorem KluP.of {w w' : World} {c : Cw} {en : Ending} {n k : Sl} (h : en = .returned (kv c n k)) (h1 : OwnK w' w.heap.size w'.heap.size c n k) (h2 : Below w.heap.size w w') : KluP w c en w' := ⟨n, k, h, h1, h2⟩
theorem KluP.out {w w' : World} {c : Cw} {en : Ending} (h : KluP w c en w') : ∃ n k : Sl, en = .returned (kv c n k) ∧ OwnK w' w.heap.size w'.heap.size c n k ∧ Below w.heap.size w w' := h
end Go.Proofs.Ytgbnkkjjgodilaa.Kc
namespace Go.Proofs.Ytgbnkkjjgodilaa.Ns
open Go.ChangeShapes Go.WideShapes Go.ChangeAt Go.RowKit
open Go.Proofs.Ytgbnkkjjgodilaa.Vv (Sl sv hidIt)
open Go.Proofs.Ytgbnkkjjgodilaa.Nd (Nw RdN OwnN)
open Go.Proofs.Ytgbnkkjjgodilaa.Rp (OnlyIn own_apart row_in row_other)
set_option linter.unusedVariables false
open Go.Proofs.Ytgbnkkjjgodilaa.Rc (BelowBy wp_region_below calls_below calls_same)
open Go.Proofs.Ytgbnkkjjgodilaa.Nd (ShortN SmallN on)
/-- What szNodeS says of a list: it is not too great. -/
structure Le5 (L : List Nw) (q l : Int) : Prop where
  le : q ≤ l
  sm : 0 ≤ q → L.length ≤ 1048576 ∧ ∀ i, i < L.length → SmallN (nod L i)
set_option maxRecDepth 100000 in
set_option maxHeartbeats 8000000 in
theorem eqS_same (a a' : Option Addr) (cap cap' : Nat) (L : List Nw) (w : World) (h : Rd w a L) (h' : Rd w a' L) (hl : L.length ≤ 9223372036854775807) (hs : ∀ i, i < L.length → (nod L i).log.length ≤ 9223372036854775806) :
    Calls Try.prog 13 #[.slice a L.length cap, .slice a' L.length cap'] w fun e w' => e = .returned (.bool true) ∧ Below w.heap.size w w' := by
  generalize hn : L.length = m at *
  have HR := hidIt h
  have HR' := hidIt h'
  have HN := hidIt hn
  have HS := hidIt hs
  clear h h' hn hs
  have hq : ((m : Int) != (m : Int)) = false := by simp
  go_enter Try.func13, Try.ntmps13
  go_wp2_with (fail)
  go_loopw [5] (fun y wx => ∃ (i : Nat), y = .int .i64 i ∧ i ≤ m ∧ Hid (Below w.heap.size w wx)) (fun y _ => (m - intOf y).toNat)
  case atStart => exact ⟨0, rfl, by omega, hidIt (Below.refl _ _)⟩
  case round =>
    obtain ⟨i, rfl, hi, HB⟩ := hrel
    by_cases hin : i < m
    · have hin' : (i : Int) < (m : Int) := by omega
      have hi0 : (0 : Int) ≤ (i : Int) := by omega
      obtain ⟨q, off, e, m, b, g, rfl, c0, c1, c2, c3, c4, c5, c6, c7, c8, c9, rN⟩ := (HR.out.kept HB.out).one (i := i) (by rw [HN.out]; exact hin)
      obtain ⟨q', off', e', m', b', g', rfl, d0, d1, d2, d3, d4, d5, d6, d7, d8, d9, rN'⟩ := (HR'.out.kept HB.out).one (i := i) (by rw [HN.out]; exact hin)
      have CE := hidIt (fun W (k : Below wr.heap.size wr W) => Nd.eq_same (nod L i) e m b g e' m' b' g' W (rN.kept k) (rN'.kept k) (HS.out i hin))
      generalize nod L i = x at *
      clear rN rN'
      obtain ⟨bk, mm, ph, mn, ol, nw, tm, bu, lg, ap⟩ := x
      obtain ⟨e0, e1, e2⟩ := e
      obtain ⟨t0, t1, t2⟩ := m
      obtain ⟨b0, b1, b2⟩ := b
      obtain ⟨g0, g1, g2⟩ := g
      obtain ⟨x0, x1, x2⟩ := e'
      obtain ⟨y0, y1, y2⟩ := m'
      obtain ⟨u0, u1, u2⟩ := b'
      obtain ⟨v0, v1, v2⟩ := g'
      simp only [Nd.nv, Nd.nc, sv] at c0 c1 c2 c3 c4 c5 c6 c7 c8 c9 d0 d1 d2 d3 d4 d5 d6 d7 d8 d9 CE
      haveI := BelowBy.one wr
      have f0 := fun p : BelowBy wr => p.cell c0
      have f1 := fun p : BelowBy wr => p.cell c1
      have f2 := fun p : BelowBy wr => p.cell c2
      have f3 := fun p : BelowBy wr => p.cell c3
      have f4 := fun p : BelowBy wr => p.cell c4
      have f5 := fun p : BelowBy wr => p.cell c5
      have f6 := fun p : BelowBy wr => p.cell c6
      have f7 := fun p : BelowBy wr => p.cell c7
      have f8 := fun p : BelowBy wr => p.cell c8
      have f9 := fun p : BelowBy wr => p.cell c9
      have h0 := fun p : BelowBy wr => p.cell d0
      have h1 := fun p : BelowBy wr => p.cell d1
      have h2 := fun p : BelowBy wr => p.cell d2
      have h3 := fun p : BelowBy wr => p.cell d3
      have h4 := fun p : BelowBy wr => p.cell d4
      have h5 := fun p : BelowBy wr => p.cell d5
      have h6 := fun p : BelowBy wr => p.cell d6
      have h7 := fun p : BelowBy wr => p.cell d7
      have h8 := fun p : BelowBy wr => p.cell d8
      have h9 := fun p : BelowBy wr => p.cell d9
      clear c0 c1 c2 c3 c4 c5 c6 c7 c8 c9 d0 d1 d2 d3 d4 d5 d6 d7 d8 d9
      go_wp2_with (fail)
      refine wp_region_below (by kernel_rfl) (by kernel_rfl) ?_
      repeat (go_big_quiet_step (first | (go_at_call 23; refine calls_below (CE.out _ (BelowBy.h _)))))
      refine wpQuiet_nil ?_
      intro _ hw'
      obtain ⟨pq, rfl⟩ := hw'
      have HB1 := hidIt (on HB.out pq.h)
      generalize pq.world = w2 at HB1 ⊢
      clear f0 f1 f2 f3 f4 f5 f6 f7 f8 f9 h0 h1 h2 h3 h4 h5 h6 h7 h8 h9
      go_wp2_with (fail)
      exact ⟨⟨i + 1, by simp, by omega, HB1⟩, by simp [intOf]; omega⟩
    · have hin' : ¬ (i : Int) < (m : Int) := by omega
      go_wp2_with (fail)
      go_ret
      exact ⟨rfl, HB.out⟩
end Go.Proofs.Ytgbnkkjjgodilaa.Ns
