/-
  The specification's Packed: bytes, rests and places in three rows of its own.
-/
import Derived.Test.YtdbldhcelbllgaaPackL
import Derived.Deep.RegionHeld3
import Derived.Deep.LoopGhost
import Derived.WalkMore
namespace Go.Proofs.Ytdbldhcelbllgaa.Nm
open Go.ChangeShapes Go.WideShapes Go.ChangeAt Go.RowKit
/-- An append of a text's bytes onto a row of one's own, as one step of a region that draws its order. -/
theorem step_append_str {P : Program} {ops : Array Oper} {o : Oper} {a : Act} {w : World} {K : Act → World → Prop} {Q : Exit → Act → World → Prop} {E : Prop}
    (hg : o.guard = none) (s x : Operand) (t u : TypeId) (hop : o.op = Op.call { callee := Callee.builtin Builtin.append, args := #[s, x], argTypes := #[t, u] })
    (base : Nat) (e : TypeId) (i : TypeInfo) (h1 : P.underlying t = some (.slice e)) (hu : P.underlying u = some .string) (h2 : P.info? e = some i) (h3 : i.zero = some (.int .u8 0)) (h4 : i.size = 1) (h5 : i.bytes = 1)
    (v : Value) (n : Nat) (xs : List Value) (hs : a.eval s = v) (hown : w.ownsRow base e 1 v n xs) (r : ByteArray) (hx : a.eval x = .string r)
    (b1 : n + r.size ≤ maxLen) (b2 : n + r.size ≤ 140737488355328) (hb : base ≤ w.heap.size)
    (hK : ∀ v' w', w'.ownsRow base e 1 v' (n + r.size) (xs ++ Go.Lib.strCells r) → w.grownBy w' v.ownBlock → K (a.put o.dst v') w') :
    if Region.wanted o (yielded ops a.tmps) = true then Oper.wp P o a w K Q else E := by
  have hw : Region.wanted o (yielded ops a.tmps) = true := by simp [Region.wanted, hg]
  rw [if_pos hw]
  obtain ⟨v', w', hrun, r1, r2, _⟩ := Go.Lib.run_append_own_string (P := P) w base t u o.type e i h1 hu h2 h3 h4 h5 v n xs hown r b1 b2 hb
  unfold Oper.wp
  simp [execOp, hop, resolve, invoke, builtin, hs, hx, hrun, Result.andThen]
  exact hK v' w' r1 r2
abbrev icells (Q : List (Bytes × Nat)) : List Value := Q.map fun e => Value.int .i64 (e.2 : Int)
abbrev rests (Q : List (Bytes × Nat)) : List ByteArray := Q.map fun e => B e.1
theorem own_apart {w : World} {base base' e e' s s' n n' : Nat} {v v' : Value} {xs xs' : List Value} (h : w.ownsRow base e s v n xs) (h' : w.ownsRow base' e' s' v' n' xs') (hne : e ≠ e') : v.ownBlock = none ∨ v.ownBlock ≠ v'.ownBlock := by
  rcases h.2 with ⟨rfl, _⟩ | ⟨g, cap, cur, rfl, _, hg, _⟩
  · exact .inl rfl
  · refine .inr (fun k => ?_)
    rcases h'.2 with ⟨rfl, _⟩ | ⟨g', cap', cur', rfl, _, hg', _⟩
    · cases k
    · cases k
      rw [hg] at hg'
      cases hg'
      exact hne rfl
/-- The three rows: the bytes, the rests, their places. -/
structure Tri (w : World) (base : Nat) (x y z : Value) (c : Bytes) (Q : List (Bytes × Nat)) : Prop where
  b : w.ownsRow base 5 1 x c.length (bcells c)
  r : Own w base y (rests Q)
  p : w.ownsRow base 3 1 z Q.length (icells Q)
theorem Tri.kept {w w' : World} {base : Nat} {x y z : Value} {c : Bytes} {Q : List (Bytes × Nat)} (h : Tri w base x y z c Q) (k : Below w.heap.size w w') : Tri w' base x y z c Q := by
  have hg : w.grownBy w' none := ⟨k.os, k.tape, k.output, k.size, fun i hi _ => k.block i hi⟩
  exact ⟨World.ownsRow.kept h.b hg (by cases x.ownBlock <;> simp), h.r.kept k, World.ownsRow.kept h.p hg (by cases z.ownBlock <;> simp)⟩
theorem Tri.alloc {w : World} {base : Nat} {x y z : Value} {c : Bytes} {Q : List (Bytes × Nat)} (h : Tri w base x y z c Q) (o : Obj) : Tri (w.alloc o) base x y z c Q := h.kept ((Below.refl _ _).alloc (Nat.le_refl _) o)
theorem Tri.bytes {w w' : World} {base : Nat} {x x' y z : Value} {c c' : Bytes} {Q : List (Bytes × Nat)} (h : Tri w base x y z c Q) (ho : w'.ownsRow base 5 1 x' c'.length (bcells c')) (g : w.grownBy w' x.ownBlock) : Tri w' base x' y z c' Q :=
  ⟨ho, World.ownsRow.kept h.r g (own_apart h.r h.b (by decide)), World.ownsRow.kept h.p g (own_apart h.p h.b (by decide))⟩
theorem Tri.below {w w' : World} {base B : Nat} {x y z : Value} {c : Bytes} {Q : List (Bytes × Nat)} (h : Tri w base x y z c Q) (g : w.grownBy w' x.ownBlock) (hB : B ≤ base) (hs : B ≤ w.heap.size) : Below B w w' :=
  ⟨g.os, g.tape, g.output, g.size, fun k hk => g.block k (by omega) (fun e => by have := (World.ownsRow.lt h.b k e.symm).1; omega)⟩
theorem tri_new (w : World) : Tri (((w.alloc (.cells #[] 5)).alloc (.cells #[] 9)).alloc (.cells #[] 3)) w.heap.size (.slice (some ⟨w.heap.size, 0, none⟩) 0 0) (.slice (some ⟨w.heap.size + 1, 0, none⟩) 0 0) (.slice (some ⟨w.heap.size + 2, 0, none⟩) 0 0) [] [] := by
  have h1 : (w.alloc (.cells #[] 5)).ownsRow w.heap.size 5 1 (.slice (some ⟨w.heap.size, 0, none⟩) 0 0) 0 [] := World.ownsRow_made w #[] 0 (Nat.le_refl _) (by decide) rfl
  have h2 : ((w.alloc (.cells #[] 5)).alloc (.cells #[] 9)).ownsRow w.heap.size 9 1 (.slice (some ⟨w.heap.size + 1, 0, none⟩) 0 0) 0 [] := by
    have := World.ownsRow_made (base := w.heap.size) (e := 9) (size := 1) (w.alloc (.cells #[] 5)) #[] 0 (by simp) (by decide) rfl
    simpa using this
  have h3 : (((w.alloc (.cells #[] 5)).alloc (.cells #[] 9)).alloc (.cells #[] 3)).ownsRow w.heap.size 3 1 (.slice (some ⟨w.heap.size + 2, 0, none⟩) 0 0) 0 [] := by
    have := World.ownsRow_made (base := w.heap.size) (e := 3) (size := 1) ((w.alloc (.cells #[] 5)).alloc (.cells #[] 9)) #[] 0 (by simp; omega) (by decide) rfl
    simpa using this
  exact ⟨(h1.alloc _).alloc _, h2.alloc _, h3⟩
theorem rests_at {Q : List (Bytes × Nat)} {k : Nat} (h : k < Q.length) : sat (rests Q) k = B (Q[k]).1 := by
  rw [sat_at (by rw [List.length_map]; exact h)]
  simp
theorem find_take {Q : List (Bytes × Nat)} {r : Bytes} {k : Nat} (h : k < Q.length) (hn : find (Q.take k) r = none) : find Q r = (if (Q[k]).1 = r then some (Q[k]).2 else find Q r) ∧ ((Q[k]).1 ≠ r → find (Q.take (k + 1)) r = none) := by
  induction Q generalizing k with
  | nil => simp at h
  | cons x t ih =>
    obtain ⟨q, p⟩ := x
    cases k with
    | zero =>
      simp only [List.getElem_cons_zero]
      refine ⟨?_, fun hne => ?_⟩
      · by_cases e : q = r
        · rw [if_pos e]; simp [find, e]
        · rw [if_neg e]
      · simp [find, hne]
    | succ k =>
      have h' : k < t.length := by simpa using h
      rw [List.take_succ_cons] at hn
      unfold find at hn
      split at hn
      · cases hn
      next hne =>
      obtain ⟨i1, i2⟩ := ih h' hn
      simp only [List.getElem_cons_succ]
      refine ⟨?_, fun k2 => ?_⟩
      · have ef : find ((q, p) :: t) r = find t r := by simp [find, hne]
        rw [ef]
        exact i1
      · rw [List.take_succ_cons]
        unfold find
        rw [if_neg hne]
        exact i2 k2
end Go.Proofs.Ytdbldhcelbllgaa.Nm
