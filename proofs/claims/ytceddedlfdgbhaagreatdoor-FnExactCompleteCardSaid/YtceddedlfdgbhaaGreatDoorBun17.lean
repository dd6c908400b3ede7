/-
  The program's rests in memory, however many there are: a pointer to a slice of slices; their methods.
  The heap's own functions over the program's rests, however many: up, down, Push, Pop, Fix.
  The heap's Push, Pop and Fix over the program's rests, however many; the program's next.
  The program's restsOf at any row of books.
  What several lists of Members come to, as books do. (Written out of WhB by wip/mkWh.py.)
-/
import Derived.Test.YtceddedlfdgbhaaGreatDoorBun7
import Derived.Test.YtceddedlfdgbhaaGreatDoorBun16
import Derived.WalkSmall
import Derived.Test.YtceddedlfdgbhaaGreatDoorBun8
namespace Go.Proofs.YtceddedlfdgbhaaGreatDoor.En
open Go.ChangeShapes Go.WideShapes Go.ChangeAt Go.RowKit
open Go.Proofs.YtceddedlfdgbhaaGreatDoor.Bk (Bytes okE newB okBk Ris IsJoin joinB lessE)
open Go.Proofs.YtceddedlfdgbhaaGreatDoor.Hq
set_option linter.unusedVariables false
attribute [local go_sem] str_gtr str_leq str_geq
/-- A rest: where it lies, and what it holds. -/
structure Rt where
  p : Nat
  o : Nat
  k : Nat
  L : List Rw
abbrev Rt.v (x : Rt) : Value := sv x.p x.o x.L.length x.k
def keyR (x : Rt) : Bytes := (toE (rat x.L 0)).key
def leR (a b : Rt) : Prop := ¬ keyR b < keyR a
def lsR (a b : Rt) : Bool := lessE (toE (rat a.L 0)) (toE (rat b.L 0))
theorem leR_refl (a : Rt) : leR a a := List.lt_irrefl _
theorem not_lt_trans {a b c : Bytes} (h : ¬ b < a) (k : ¬ c < b) : ¬ c < a := fun q => by
  by_cases e : b < c
  · exact h (List.lt_trans e q)
  · have := Bk.lt_total e k
    rw [← this] at q
    exact h q
theorem leR_trans (a b c : Rt) (h : leR a b) (k : leR b c) : leR a c := not_lt_trans h k
theorem lsR_true {a b : Rt} (h : lsR a b = true) : leR a b := by
  unfold lsR lessE at h
  rw [Bool.or_eq_true, decide_eq_true_eq, Bool.and_eq_true, decide_eq_true_eq] at h
  intro q
  rcases h with h | ⟨h, _⟩
  · exact List.lt_irrefl _ (List.lt_trans h q)
  · unfold keyR at q
    rw [h] at q
    exact List.lt_irrefl _ q
theorem lsR_false {a b : Rt} (h : lsR a b = false) : leR b a := by
  unfold lsR lessE at h
  rw [Bool.or_eq_false_iff, decide_eq_false_iff_not] at h
  exact h.1
def vals (x : Nat → Rt) (n : Nat) : List Value := (List.range n).map (fun i => (x i).v)
theorem vals_len (x : Nat → Rt) (n : Nat) : (vals x n).length = n := by simp [vals]
theorem vals_at {x : Nat → Rt} {n i : Nat} (h : i < n) : (vals x n)[i]? = some (x i).v := by simp [vals, h]
theorem vals_succ (x : Nat → Rt) (n : Nat) : vals x (n + 1) = vals x n ++ [(x n).v] := by simp [vals, List.range_succ]
theorem vals_upd {x : Nat → Rt} {n i : Nat} (h : i < n) (y : Rt) : vals (upd x i y) n = (vals x n).set i y.v := by
  refine List.ext_getElem? (fun k => ?_)
  rw [List.getElem?_set]
  by_cases hk : k < n
  · rw [vals_at hk]
    by_cases e : i = k
    · subst e
      rw [if_pos rfl, vals_len, if_pos h, upd_at]
    · rw [if_neg e, vals_at hk, upd_ne (fun q => e q.symm)]
  · rw [List.getElem?_eq_none (by rw [vals_len]; omega), if_neg (by omega), List.getElem?_eq_none (by rw [vals_len]; omega)]
theorem vals_push {x : Nat → Rt} {n : Nat} (y : Rt) : vals (upd x n y) (n + 1) = vals x n ++ [y.v] := by
  rw [vals_succ, upd_at]
  congr 1
  unfold vals
  refine List.map_congr_left (fun i hi => ?_)
  rw [upd_ne (by have := List.mem_range.1 hi; omega)]
/-- The rests at block b: n of them, in the row at block g. -/
structure Sq (w : World) (base b g cap n : Nat) (x : Nat → Rt) : Prop where
  hb : base ≤ b
  me : w.heap[b]? = some (.cells #[.slice (some ⟨g, 0, none⟩) n cap] 157 (0, 0))
  own : w.ownsRow base 37 1 (.slice (some ⟨g, 0, none⟩) n cap) n (vals x n)
  el : ∀ i, i < n → El w base (x i).p (x i).o (x i).k (x i).L
theorem Sq.ne {w : World} {base b g cap n : Nat} {x : Nat → Rt} (h : Sq w base b g cap n x) : b ≠ g := fun e => rs_ne h.me h.own (by rw [e]; rfl)
theorem Sq.bl {w : World} {base b g cap n : Nat} {x : Nat → Rt} (h : Sq w base b g cap n x) : b < w.heap.size := (Array.getElem?_eq_some_iff.1 h.me).1
theorem Sq.gl {w : World} {base b g cap n : Nat} {x : Nat → Rt} (h : Sq w base b g cap n x) : base ≤ g ∧ g < w.heap.size := World.ownsRow.lt h.own g rfl
theorem Sq.cp {w : World} {base b g cap n : Nat} {x : Nat → Rt} (h : Sq w base b g cap n x) : n ≤ cap ∧ cap ≤ maxLen := by
  rcases h.own.2 with ⟨e, _⟩ | ⟨g', cap', cur, e, _, _, h1, h2, _⟩
  · cases e
  · cases e
    exact ⟨h1, h2⟩
theorem Sq.c {w : World} {base b g cap n : Nat} {x : Nat → Rt} (h : Sq w base b g cap n x) : w.cell? ⟨b, 0, none⟩ = some (.slice (some ⟨g, 0, none⟩) n cap) := by rw [Go.Lib.cell_of_heap h.me]; rfl
theorem Sq.cf {w : World} {base b g cap n : Nat} {x : Nat → Rt} (h : Sq w base b g cap n x) : w.frozen? ⟨b, 0, none⟩ = false := by simp [World.frozen?, h.me]
theorem Sq.row {w : World} {base b g cap n : Nat} {x : Nat → Rt} (h : Sq w base b g cap n x) {i : Nat} (hi : i < n) : w.cell? ⟨g, i, none⟩ = some (x i).v := by
  rw [World.ownsRow.cellAt h.own i (by omega)]
  exact vals_at hi
theorem Sq.rf {w : World} {base b g cap n : Nat} {x : Nat → Rt} (h : Sq w base b g cap n x) (i : Nat) : w.frozen? ⟨g, i, none⟩ = false := World.ownsRow.frozenAt h.own i
theorem Sq.low {w w' : World} {base b g cap n B : Nat} {x : Nat → Rt} (h : Sq w base b g cap n x) (k : Below B w w') (hb : b < B) (hg : g < B) (hs : base ≤ B) : Sq w' base b g cap n x :=
  ⟨h.hb, (k.block b hb).trans h.me, by
    rcases h.own with ⟨h1, h2⟩
    refine ⟨h1, ?_⟩
    rcases h2 with h2 | ⟨q, c, cur, e, hq, hw, r⟩
    · exact .inl h2
    · refine .inr ⟨q, c, cur, e, hq, ?_, r⟩
      cases e
      exact (k.block g hg).trans hw,
   fun i hi => (h.el i hi).low (k.mono hs)⟩
theorem Sq.kept {w w' : World} {base b g cap n : Nat} {x : Nat → Rt} (h : Sq w base b g cap n x) (k : Below w.heap.size w w') : Sq w' base b g cap n x := h.low k h.bl h.gl.2 (by have := h.gl; omega)
theorem Sq.drew {w : World} {base b g cap n : Nat} {x : Nat → Rt} (h : Sq w base b g cap n x) : Sq w.drew base b g cap n x := ⟨h.hb, h.me, h.own, fun i hi => ⟨⟨(h.el i hi).rd.cell⟩, (h.el i hi).lt, (h.el i hi).pos, (h.el i hi).cap⟩⟩
theorem el_set {w : World} {base p o k d : Nat} {X : List Rw} (h : El w base p o k X) (hd : base ≤ d) (i : Nat) (v : Value) : El (w.setCell ⟨d, i, none⟩ v) base p o k X := h.low ((Below.refl base w).setCell (p := ⟨d, i, none⟩) hd v)
theorem Sq.put {w : World} {base b g cap n i : Nat} {x : Nat → Rt} (h : Sq w base b g cap n x) (hi : i < n) (y : Rt) (hy : El w base y.p y.o y.k y.L) : Sq (w.setCell ⟨g, i, none⟩ y.v) base b g cap n (upd x i y) := by
  refine ⟨h.hb, (Below.heap_setCell _ _ _ _ h.ne).trans h.me, ?_, fun j hj => ?_⟩
  · rw [vals_upd hi]
    exact (World.ownsRow.stored h.own i y.v).1
  · by_cases e : j = i
    · subst e
      rw [upd_at]
      exact el_set hy h.gl.1 _ _
    · rw [upd_ne e]
      exact el_set (h.el j hj) h.gl.1 _ _
theorem Sq.other {w : World} {base b g cap n d : Nat} {x : Nat → Rt} (h : Sq w base b g cap n x) (hb : d ≠ b) (hg : d ≠ g) (hd : base ≤ d) (i : Nat) (v : Value) : Sq (w.setCell ⟨d, i, none⟩ v) base b g cap n x :=
  ⟨h.hb, (Below.heap_setCell _ _ _ _ (fun e => hb e.symm)).trans h.me, ownsRow_setCell_other h.own (a := ⟨d, i, none⟩) (fun e => hg (Option.some.inj e).symm) v, fun j hj => el_set (h.el j hj) hd _ _⟩
theorem Sq.cut {w : World} {base b g cap n : Nat} {x : Nat → Rt} (h : Sq w base b g cap (n + 1) x) : Sq (w.setCell ⟨b, 0, none⟩ (.slice (some ⟨g, 0, none⟩) n cap)) base b g cap n x :=
  ⟨h.hb, by have := h.me; simp [World.setCell, Array.getElem?_modify, this], by
    have := h.own
    rw [vals_succ] at this
    exact ownsRow_setCell_other (ownsRow_pop (by rw [vals_len]; omega) this) (a := ⟨b, 0, none⟩) (fun e => h.ne (Option.some.inj e).symm) _,
   fun i hi => el_set (h.el i (by omega)) h.hb _ _⟩
theorem Sq.swap {w : World} {base b g cap n i j : Nat} {x : Nat → Rt} (h : Sq w base b g cap n x) (hi : i < n) (hj : j < n) : Sq ((w.setCell ⟨g, i, none⟩ (x j).v).setCell ⟨g, j, none⟩ (x i).v) base b g cap n (swp x i j) := by
  rw [swp_upd]
  exact (h.put hi (x j) (h.el j hj)).put hj (x i) (el_set (h.el i hi) h.gl.1 _ _)
theorem Sq.rs {w : World} {base b g cap n : Nat} {x : Nat → Rt} (h : Sq w base b g cap n x) : Rs w base b (vals x n) := ⟨h.hb, _, h.me, by rw [vals_len]; exact h.own⟩
theorem Rs.sq {w : World} {base b n : Nat} {x : Nat → Rt} (h : Rs w base b (vals x (n + 1))) (he : ∀ i, i < n + 1 → El w base (x i).p (x i).o (x i).k (x i).L) : ∃ g cap, Sq w base b g cap (n + 1) x := by
  obtain ⟨le, v, hb, ho⟩ := h
  rw [vals_len] at ho
  rcases ho.2 with ⟨_, h0⟩ | ⟨g, cap, cur, rfl, hg, hw, hn, hm, _⟩
  · omega
  · exact ⟨g, cap, le, hb, ho, he⟩
set_option maxRecDepth 100000 in
set_option maxHeartbeats 4000000 in
theorem rests_PopN {w : World} {base b g cap n : Nat} {x : Nat → Rt} (h : Sq w base b g cap (n + 1) x) (hn : n ≤ 1000) :
    Calls Tryz.prog 156 #[.pointer (some ⟨b, 0, none⟩)] w fun e w' => (∃ v, e = .returned v) ∧ Sq w' base b g cap n x ∧ Fr b g w w' := by
  have c0 := h.c
  have f0 := h.cf
  have le := h.cp.1
  have HC := hidIt h.cut
  have HF := hidIt ((Fr.refl b g w).setB 0 (.slice (some ⟨g, 0, none⟩) n cap))
  have cc := h.row (i := n) (by omega)
  generalize (x n).v = vn at cc
  clear h
  have hn1 : (n : Int) ≤ 1000 := by omega
  go_enter Tryz.func156, Tryz.ntmps156
  go_wp2_with (fail)
  go_ret
  exact ⟨⟨_, rfl⟩, HC.out, HF.out⟩
set_option maxRecDepth 100000 in
set_option maxHeartbeats 4000000 in
theorem rests_SwapN {w : World} {base b g cap n i j : Nat} {x : Nat → Rt} (h : Sq w base b g cap n x) (hi : i < n) (hj : j < n) (hn : n ≤ 1000) :
    Calls Tryz.prog 158 #[.slice (some ⟨g, 0, none⟩) n cap, .int .i64 i, .int .i64 j] w fun e w' => e = .returned (.tuple #[]) ∧ Sq w' base b g cap n (swp x i j) ∧ Fr b g w w' := by
  have c0 := h.row hi
  have c1 := h.row hj
  have f0 := h.rf i
  have f1 := h.rf j
  have HS := hidIt (h.swap hi hj).drew
  have HF := hidIt (((Fr.refl b g w).setG i (x j).v).setG j (x i).v).drew
  have hi' : (i : Int) < (n : Int) := by omega
  have hj' : (j : Int) < (n : Int) := by omega
  clear h
  generalize swp x i j = y at HS ⊢
  by_cases e : i = j
  · subst e
    generalize x i = xi at *
    obtain ⟨p0, o0, k0, L0⟩ := xi
    simp only [Rt.v] at c0 c1 HS HF
    generalize L0.length = n0 at *
    go_enter Tryz.func158, Tryz.ntmps158
    go_wp2_with (fail)
    go_big_region
    exact bodyPost_end (v := .tuple #[]) (by simp [results, Tryz.results158, go_sem]) rfl ⟨rfl, HS.out, HF.out⟩
  · have e' : ¬ j = i := fun q => e q.symm
    generalize x i = xi at *
    generalize x j = xj at *
    obtain ⟨p0, o0, k0, L0⟩ := xi
    obtain ⟨p1, o1, k1, L1⟩ := xj
    simp only [Rt.v] at c0 c1 HS HF
    generalize L0.length = n0 at *
    generalize L1.length = n1 at *
    go_enter Tryz.func158, Tryz.ntmps158
    go_wp2_with (fail)
    go_big_region
    exact bodyPost_end (v := .tuple #[]) (by simp [results, Tryz.results158, go_sem]) rfl ⟨rfl, HS.out, HF.out⟩
set_option maxRecDepth 100000 in
set_option maxHeartbeats 8000000 in
theorem rests_LessN {w : World} {base b g cap n i j : Nat} {x : Nat → Rt} (h : Sq w base b g cap n x) (hi : i < n) (hj : j < n) (hn : n ≤ 1000) :
    Calls Tryz.prog 155 #[.slice (some ⟨g, 0, none⟩) n cap, .int .i64 i, .int .i64 j] w fun e w' => e = .returned (.bool (lsR (x i) (x j))) ∧ Below w.heap.size w w' := by
  have r0 := h.row hj
  have r1 := h.row hi
  have E0 := h.el j hj
  have E1 := h.el i hi
  have l0 := h.gl.2
  have hi' : (i : Int) < (n : Int) := by omega
  have hj' : (j : Int) < (n : Int) := by omega
  clear h
  unfold lsR
  generalize x j = xj at *
  generalize x i = xi at *
  obtain ⟨p0, o0, k0, L0⟩ := xj
  obtain ⟨p1, o1, k1, L1⟩ := xi
  simp only [Rt.v] at r0 r1 E0 E1 ⊢
  obtain ⟨c0, c1, c2, c3, c4⟩ := cells_one E0.rd E0.pos
  obtain ⟨d0, d1, d2, d3, d4⟩ := cells_one E1.rd E1.pos
  have CN := hidIt (fun W => impl_Newer (rat L1 0) (rat L0 0) W)
  have l1 := cell_block c0
  have l2 := cell_block d0
  have z0 := E0.pos
  have z1 := E1.pos
  clear E0 E1
  generalize rat L0 0 = x at c0 c1 c2 c3 c4 CN ⊢
  generalize rat L1 0 = y at d0 d1 d2 d3 d4 CN ⊢
  generalize L0.length = n0 at *
  generalize L1.length = n1 at *
  obtain ⟨xk, xv, xt, xn, xg⟩ := x
  obtain ⟨yk, yv, yt, yn, yg⟩ := y
  simp only [rv] at CN c0 c1 c2 c3 c4 d0 d1 d2 d3 d4
  have z0' : (0 : Int) < (n0 : Int) := by omega
  have z1' : (0 : Int) < (n1 : Int) := by omega
  have hl := less_of yk xk
  have he := eq_of yk xk
  have HW1 := hidIt (Below.drew (((Below.refl w.heap.size w).alloc (Nat.le_refl _) (.cells #[.string yk, .string yv, .int .i64 yt, .int .i64 yn, .bool yg] 100)).alloc (by simp) (.cells #[.string xk, .string xv, .int .i64 xt, .int .i64 xn, .bool xg] 100)))
  have HW2 := hidIt (Below.drew (((Below.refl w.heap.size w).alloc (Nat.le_refl _) (.cells #[.string xk, .string xv, .int .i64 xt, .int .i64 xn, .bool xg] 100)).alloc (by simp) (.cells #[.string yk, .string yv, .int .i64 yt, .int .i64 yn, .bool yg] 100)))
  by_cases hlt : bs yk < bs xk
  · rw [decide_eq_true hlt] at hl
    have er : lessE (toE (yk, yv, yt, yn, yg)) (toE (xk, xv, xt, xn, xg)) = true := Bk.lessE_lt hlt
    rw [er]
    clear he hlt er
    go_enter Tryz.func155, Tryz.ntmps155
    go_wp2_with (fail)
    go_big_region
    all_goals (go_wp2_with (fail); go_ret; first | exact ⟨rfl, HW1.out⟩ | exact ⟨rfl, HW2.out⟩)
  · rw [decide_eq_false hlt] at hl
    by_cases heq : bs yk = bs xk
    · rw [decide_eq_true heq] at he
      have er : lessE (toE (yk, yv, yt, yn, yg)) (toE (xk, xv, xt, xn, xg)) = newB (toE (yk, yv, yt, yn, yg)) (toE (xk, xv, xt, xn, xg)) := Bk.lessE_eq hlt heq
      rw [er]
      generalize newB (toE (yk, yv, yt, yn, yg)) (toE (xk, xv, xt, xn, xg)) = r at CN ⊢
      clear heq hlt er
      go_enter Tryz.func155, Tryz.ntmps155
      go_wp2_with (fail)
      go_big_region
      all_goals (go_wp2_with (fail); refine (CN.out _).mono ?_; rintro e w1 ⟨rfl, k1⟩; have HK := hidIt k1; clear k1; go_wp2_with (fail); go_ret; first | exact ⟨rfl, HW1.out.trans (HK.out.mono HW1.out.size)⟩ | exact ⟨rfl, HW2.out.trans (HK.out.mono HW2.out.size)⟩)
    · rw [decide_eq_false heq] at he
      have er : lessE (toE (yk, yv, yt, yn, yg)) (toE (xk, xv, xt, xn, xg)) = false := Bk.lessE_gt hlt heq
      rw [er]
      clear heq hlt er
      go_enter Tryz.func155, Tryz.ntmps155
      go_wp2_with (fail)
      go_big_region
      all_goals (go_wp2_with (fail); go_ret; first | exact ⟨rfl, HW1.out⟩ | exact ⟨rfl, HW2.out⟩)
end Go.Proofs.YtceddedlfdgbhaaGreatDoor.En
namespace Go.Proofs.YtceddedlfdgbhaaGreatDoor.En
open Go.ChangeShapes Go.WideShapes Go.ChangeAt Go.RowKit
open Go.Proofs.YtceddedlfdgbhaaGreatDoor.Bk (Bytes okE newB okBk Ris IsJoin joinB lessE)
open Go.Proofs.YtceddedlfdgbhaaGreatDoor.Hq
set_option linter.unusedVariables false
attribute [local go_sem] m_Len m_Less m_Swap m_Push m_Pop as_book
/-- Where the heap has come to: the same rests, in the heap's order. -/
def HpR (w w' : World) (base b g cap n : Nat) (x : Nat → Rt) : Prop := (∃ x', Sq w' base b g cap n x' ∧ Hok leR n x' ∧ Per n x x') ∧ Fr b g w w'
/-- On the way up, and on the way down. -/
def UpS (w w' : World) (base b g cap n : Nat) (x : Nat → Rt) (j : Nat) : Prop := ∃ x', Sq w' base b g cap n x' ∧ Uok leR n x' j ∧ Per n x x' ∧ Fr b g w w'
/-- N are there, of which the heap takes n. -/
def DnS (w w' : World) (base b g cap N n : Nat) (x : Nat → Rt) (j : Nat) : Prop := ∃ x', Sq w' base b g cap N x' ∧ Dok leR n x' j ∧ Per n x x' ∧ (∀ i, n ≤ i → x' i = x i) ∧ Fr b g w w'
def DnR (w w' : World) (base b g cap N n : Nat) (x : Nat → Rt) : Prop := ∃ x', Sq w' base b g cap N x' ∧ Hok leR n x' ∧ Per n x x' ∧ (∀ i, n ≤ i → x' i = x i) ∧ Fr b g w w'
theorem rests_LessI {W : World} {base b g cap n : Nat} {y : Nat → Rt} (i j : Nat) (a c : Int) (ha : a = (i : Int)) (hc : c = (j : Int)) (h : Sq W base b g cap n y) (hi : i < n) (hj : j < n) (hn : n ≤ 1000) :
    Calls Tryz.prog 155 #[.slice (some ⟨g, 0, none⟩) n cap, .int .i64 a, .int .i64 c] W fun e w' => e = .returned (.bool (lsR (y i) (y j))) ∧ Below W.heap.size W w' := by
  subst ha hc
  exact rests_LessN h hi hj hn
theorem rests_SwapI {W : World} {base b g cap n : Nat} {y : Nat → Rt} (i j : Nat) (a c : Int) (ha : a = (i : Int)) (hc : c = (j : Int)) (h : Sq W base b g cap n y) (hi : i < n) (hj : j < n) (hn : n ≤ 1000) :
    Calls Tryz.prog 158 #[.slice (some ⟨g, 0, none⟩) n cap, .int .i64 a, .int .i64 c] W fun e w' => e = .returned (.tuple #[]) ∧ Sq w' base b g cap n (swp y i j) ∧ Fr b g W w' := by
  subst ha hc
  exact rests_SwapN h hi hj hn
set_option maxRecDepth 100000 in
set_option maxHeartbeats 4000000 in
theorem up_any {w : World} {base b g cap n j : Nat} {x : Nat → Rt} (h : Sq w base b g cap n x) (hj : j < n) (hn : n ≤ 1000) (hu : Uok leR n x j) :
    Calls Tryz.prog 117 #[hI b, .int .i64 j] w fun e w' => e = .returned (.tuple #[]) ∧ HpR w w' base b g cap n x := by
  have CL := hidIt (fun W (y : Nat → Rt) (i j : Nat) (a c : Int) ha hc (h : Sq W base b g cap n y) hi hj => rests_LessI i j a c ha hc h hi hj hn)
  have CS := hidIt (fun W (y : Nat → Rt) (i j : Nat) (a c : Int) ha hc (h : Sq W base b g cap n y) hi hj => rests_SwapI i j a c ha hc h hi hj hn)
  have H0 : Hid (UpS w w base b g cap n x j) := hidIt ⟨x, h, hu, Per.refl _ _, Fr.refl _ _ _⟩
  clear h hu
  go_enter Tryz.func117, Tryz.ntmps117
  go_wp2_with (fail)
  go_loopw [1] (fun y wx => ∃ j : Nat, y = .int .i64 j ∧ j < n ∧ Hid (UpS w wx base b g cap n x j)) (fun y _ => (intOf y).toNat)
  case atStart => exact ⟨j, rfl, hj, H0⟩
  case round =>
    obtain ⟨j, rfl, hjn, HS⟩ := hrel
    obtain ⟨x', s', u', p', f'⟩ := HS.out
    have HSq := hidIt s'
    have HU := hidIt u'
    have HP := hidIt p'
    have HF := hidIt f'
    have me := s'.c
    clear HS s' u' p' f' H0
    rcases Nat.eq_zero_or_pos j with rfl | hp
    · have HR : Hid (HpR w wr base b g cap n x) := hidIt ⟨⟨x', HSq.out, up_stop HU.out (fun h => absurd h (by omega)), HP.out⟩, HF.out⟩
      go_wp2_with (fail)
      exact bodyPost_end (v := .tuple #[]) (by simp [results, Tryz.results117, go_sem]) rfl ⟨rfl, HR.out⟩
    · obtain ⟨k, rfl⟩ : ∃ k, j = k + 1 := ⟨j - 1, by omega⟩
      have epar : Hid (par (k + 1) = k / 2) := hidIt (by unfold par; simp)
      have hk : (k : Int) ≤ 1000 := by omega
      clear hp
      go_wp2_with (fail)
      refine (CL.out _ x' (k + 1) (k / 2) _ _ ?_ ?_ HSq.out hjn (by omega)).mono ?_
      · omega
      · omega
      rintro e w1 ⟨rfl, k1⟩
      have HS1 := hidIt (HSq.out.kept k1)
      have HF1 := hidIt (HF.out.trans (Fr.of_below k1))
      have me1 := HS1.out.c
      clear k1
      cases hr : lsR (x' (k + 1)) (x' (k / 2)) with
      | false =>
        have HR : Hid (HpR w w1 base b g cap n x) := hidIt ⟨⟨x', HS1.out, up_stop HU.out (fun _ => by rw [epar.out]; exact lsR_false hr), HP.out⟩, HF1.out⟩
        clear hr
        go_wp2_with (fail)
        exact bodyPost_end (v := .tuple #[]) (by simp [results, Tryz.results117, go_sem]) rfl ⟨rfl, HR.out⟩
      | true =>
        have HU2 : Hid (Uok leR n (swp x' (k / 2) (k + 1)) (k / 2)) := hidIt (by
          have := up_swap leR_trans HU.out (by omega) hjn (by rw [epar.out]; exact lsR_true hr)
          rw [epar.out] at this
          exact this)
        clear hr
        go_wp2_with (fail)
        refine (CS.out _ x' (k / 2) (k + 1) _ _ ?_ ?_ HS1.out (by omega) hjn).mono ?_
        · omega
        · omega
        rintro e w2 ⟨rfl, s2, f2⟩
        have HR2 : Hid (UpS w w2 base b g cap n x (k / 2)) := hidIt ⟨_, s2, HU2.out, HP.out.swp (by omega) hjn, HF1.out.trans f2⟩
        clear s2 f2
        go_wp2_with (fail)
        exact ⟨⟨k / 2, by first | rfl | simp, by omega, HR2⟩, by simp [intOf]; omega⟩
set_option maxRecDepth 100000 in
set_option maxHeartbeats 8000000 in
theorem down_any {w : World} {base b g cap N n j : Nat} {x : Nat → Rt} (h : Sq w base b g cap N x) (hnN : n ≤ N) (hN : N ≤ 1000) (hd : Dok leR n x 0) :
    Calls Tryz.prog 120 #[hI b, .int .i64 0, .int .i64 n] w fun e w' => (∃ r : Bool, e = .returned (.bool r)) ∧ DnR w w' base b g cap N n x := by
  have CL := hidIt (fun W (y : Nat → Rt) (i j : Nat) (a c : Int) ha hc (h : Sq W base b g cap N y) hi hj => rests_LessI i j a c ha hc h hi hj hN)
  have CS := hidIt (fun W (y : Nat → Rt) (i j : Nat) (a c : Int) ha hc (h : Sq W base b g cap N y) hi hj => rests_SwapI i j a c ha hc h hi hj hN)
  have H0 : Hid (DnS w w base b g cap N n x 0) := hidIt ⟨x, h, hd, Per.refl _ _, fun _ _ => rfl, Fr.refl _ _ _⟩
  clear h hd
  go_enter Tryz.func120, Tryz.ntmps120
  go_wp2_with (fail)
  go_loopw [7] (fun y wx => ∃ j : Nat, y = .int .i64 j ∧ (j < n ∨ j = 0) ∧ Hid (DnS w wx base b g cap N n x j)) (fun y _ => (1000 - intOf y).toNat)
  case atStart => exact ⟨0, rfl, .inr rfl, H0⟩
  case round =>
    obtain ⟨j, rfl, hjn, HS⟩ := hrel
    obtain ⟨x', s', u', p', q', f'⟩ := HS.out
    have HSq := hidIt s'
    have HU := hidIt u'
    have HP := hidIt p'
    have HQ := hidIt q'
    have HF := hidIt f'
    have me := s'.c
    clear HS s' u' p' q' f' H0
    have hj1 : (j : Int) ≤ 1000 := by omega
    have hj2 : (n : Int) ≤ 1000 := by omega
    by_cases h1 : 2 * j + 1 < n
    · have h1' : 2 * (j : Int) + 1 < (n : Int) := by omega
      by_cases h2 : 2 * j + 1 + 1 < n
      · have h2' : 2 * (j : Int) + 1 + 1 < (n : Int) := by omega
        go_wp2_with (fail)
        refine (CL.out _ x' (2 * j + 1 + 1) (2 * j + 1) _ _ ?_ ?_ HSq.out (by omega) (by omega)).mono ?_
        · omega
        · omega
        rintro e w1 ⟨rfl, k1⟩
        have HS1 := hidIt (HSq.out.kept k1)
        have HF1 := hidIt (HF.out.trans (Fr.of_below k1))
        have me1 := HS1.out.c
        clear k1
        cases hr : lsR (x' (2 * j + 1 + 1)) (x' (2 * j + 1)) with
        | false =>
          have HMin : Hid (∀ k, 0 < k → k < n → par k = j → leR (x' (2 * j + 1)) (x' k)) := hidIt (fun k k0 kn kp => by
            have : k = 2 * j + 1 ∨ k = 2 * j + 1 + 1 := by unfold par at kp; omega
            rcases this with rfl | rfl
            · exact leR_refl _
            · exact lsR_false hr)
          clear hr
          go_wp2_with (fail)
          refine (CL.out _ x' (2 * j + 1) j _ _ ?_ ?_ HS1.out (by omega) (by omega)).mono ?_
          · omega
          · omega
          rintro e w2 ⟨rfl, k2⟩
          have HS2 := hidIt (HS1.out.kept k2)
          have HF2 := hidIt (HF1.out.trans (Fr.of_below k2))
          have me2 := HS2.out.c
          clear k2
          cases hr : lsR (x' (2 * j + 1)) (x' j) with
          | false =>
            have HR : Hid (DnR w w2 base b g cap N n x) := hidIt ⟨x', HS2.out, down_stop HU.out (fun k k0 kn kp => leR_trans _ _ _ (lsR_false hr) (HMin.out k k0 kn kp)), HP.out, HQ.out, HF2.out⟩
            clear hr
            go_wp2_with (fail)
            go_ret
            exact ⟨⟨_, rfl⟩, HR.out⟩
          | true =>
            have HU2 : Hid (Dok leR n (swp x' j (2 * j + 1)) (2 * j + 1)) := hidIt (down_swap HU.out (by omega) h1 (by unfold par; omega) (lsR_true hr) HMin.out)
            clear hr
            go_wp2_with (fail)
            refine (CS.out _ x' j (2 * j + 1) _ _ ?_ ?_ HS2.out (by omega) (by omega)).mono ?_
            · omega
            · omega
            rintro e w3 ⟨rfl, s3, f3⟩
            have HR3 : Hid (DnS w w3 base b g cap N n x (2 * j + 1)) := hidIt ⟨_, s3, HU2.out, HP.out.swp (by omega) h1, fun i hi => by rw [swp_ne (by omega) (by omega)]; exact HQ.out i hi, HF2.out.trans f3⟩
            clear s3 f3
            go_wp2_with (fail)
            exact ⟨⟨2 * j + 1, by first | rfl | simp, .inl h1, HR3⟩, by simp [intOf]; omega⟩
        | true =>
          have HMin : Hid (∀ k, 0 < k → k < n → par k = j → leR (x' (2 * j + 1 + 1)) (x' k)) := hidIt (fun k k0 kn kp => by
            have : k = 2 * j + 1 ∨ k = 2 * j + 1 + 1 := by unfold par at kp; omega
            rcases this with rfl | rfl
            · exact lsR_true hr
            · exact leR_refl _)
          clear hr
          go_wp2_with (fail)
          refine (CL.out _ x' (2 * j + 1 + 1) j _ _ ?_ ?_ HS1.out (by omega) (by omega)).mono ?_
          · omega
          · omega
          rintro e w2 ⟨rfl, k2⟩
          have HS2 := hidIt (HS1.out.kept k2)
          have HF2 := hidIt (HF1.out.trans (Fr.of_below k2))
          have me2 := HS2.out.c
          clear k2
          cases hr : lsR (x' (2 * j + 1 + 1)) (x' j) with
          | false =>
            have HR : Hid (DnR w w2 base b g cap N n x) := hidIt ⟨x', HS2.out, down_stop HU.out (fun k k0 kn kp => leR_trans _ _ _ (lsR_false hr) (HMin.out k k0 kn kp)), HP.out, HQ.out, HF2.out⟩
            clear hr
            go_wp2_with (fail)
            go_ret
            exact ⟨⟨_, rfl⟩, HR.out⟩
          | true =>
            have HU2 : Hid (Dok leR n (swp x' j (2 * j + 1 + 1)) (2 * j + 1 + 1)) := hidIt (down_swap HU.out (by omega) h2 (by unfold par; omega) (lsR_true hr) HMin.out)
            clear hr
            go_wp2_with (fail)
            refine (CS.out _ x' j (2 * j + 1 + 1) _ _ ?_ ?_ HS2.out (by omega) (by omega)).mono ?_
            · omega
            · omega
            rintro e w3 ⟨rfl, s3, f3⟩
            have HR3 : Hid (DnS w w3 base b g cap N n x (2 * j + 1 + 1)) := hidIt ⟨_, s3, HU2.out, HP.out.swp (by omega) h2, fun i hi => by rw [swp_ne (by omega) (by omega)]; exact HQ.out i hi, HF2.out.trans f3⟩
            clear s3 f3
            go_wp2_with (fail)
            exact ⟨⟨2 * j + 1 + 1, by first | rfl | simp, .inl h2, HR3⟩, by simp [intOf]; omega⟩
      · have h2' : ¬ 2 * (j : Int) + 1 + 1 < (n : Int) := by omega
        have HMin : Hid (∀ k, 0 < k → k < n → par k = j → leR (x' (2 * j + 1)) (x' k)) := hidIt (fun k k0 kn kp => by
          have : k = 2 * j + 1 := by unfold par at kp; omega
          subst this
          exact leR_refl _)
        go_wp2_with (fail)
        refine (CL.out _ x' (2 * j + 1) j _ _ ?_ ?_ HSq.out (by omega) (by omega)).mono ?_
        · omega
        · omega
        rintro e w2 ⟨rfl, k2⟩
        have HS2 := hidIt (HSq.out.kept k2)
        have HF2 := hidIt (HF.out.trans (Fr.of_below k2))
        have me2 := HS2.out.c
        clear k2
        cases hr : lsR (x' (2 * j + 1)) (x' j) with
        | false =>
          have HR : Hid (DnR w w2 base b g cap N n x) := hidIt ⟨x', HS2.out, down_stop HU.out (fun k k0 kn kp => leR_trans _ _ _ (lsR_false hr) (HMin.out k k0 kn kp)), HP.out, HQ.out, HF2.out⟩
          clear hr
          go_wp2_with (fail)
          go_ret
          exact ⟨⟨_, rfl⟩, HR.out⟩
        | true =>
          have HU2 : Hid (Dok leR n (swp x' j (2 * j + 1)) (2 * j + 1)) := hidIt (down_swap HU.out (by omega) h1 (by unfold par; omega) (lsR_true hr) HMin.out)
          clear hr
          go_wp2_with (fail)
          refine (CS.out _ x' j (2 * j + 1) _ _ ?_ ?_ HS2.out (by omega) (by omega)).mono ?_
          · omega
          · omega
          rintro e w3 ⟨rfl, s3, f3⟩
          have HR3 : Hid (DnS w w3 base b g cap N n x (2 * j + 1)) := hidIt ⟨_, s3, HU2.out, HP.out.swp (by omega) h1, fun i hi => by rw [swp_ne (by omega) (by omega)]; exact HQ.out i hi, HF2.out.trans f3⟩
          clear s3 f3
          go_wp2_with (fail)
          exact ⟨⟨2 * j + 1, by first | rfl | simp, .inl h1, HR3⟩, by simp [intOf]; omega⟩
    · have h1' : (n : Int) ≤ 2 * (j : Int) + 1 := by omega
      have HR : Hid (DnR w wr base b g cap N n x) := hidIt ⟨x', HSq.out, down_stop HU.out (fun k k0 kn kp => by exfalso; unfold par at kp; omega), HP.out, HQ.out, HF.out⟩
      go_wp2_with (fail)
      go_ret
      exact ⟨⟨_, rfl⟩, HR.out⟩
end Go.Proofs.YtceddedlfdgbhaaGreatDoor.En
namespace Go.Proofs.YtceddedlfdgbhaaGreatDoor.En
open Go.ChangeShapes Go.WideShapes Go.ChangeAt Go.RowKit
open Go.Proofs.YtceddedlfdgbhaaGreatDoor.Bk (Bytes okE newB okBk Ris IsJoin joinB lessE)
open Go.Proofs.YtceddedlfdgbhaaGreatDoor.Hq
set_option linter.unusedVariables false
attribute [local go_sem] m_Len m_Less m_Swap m_Push m_Pop as_book
/-- The rests at block b: these, in the heap's order. -/
def NxS (w : World) (base b g cap n : Nat) (x : Nat → Rt) : Prop := ∃ x', Sq w base b g cap n x' ∧ Hok leR n x' ∧ Per n x x'
def PuS (w : World) (base b n : Nat) (x : Nat → Rt) : Prop := ∃ g cap, NxS w base b g cap n x
theorem up_at {w : World} {base b g cap n : Nat} {x : Nat → Rt} (j : Nat) (a : Int) (ha : a = (j : Int)) (h : Sq w base b g cap n x) (hj : j < n) (hn : n ≤ 1000) (hu : Uok leR n x j) :
    Calls Tryz.prog 117 #[hI b, .int .i64 a] w fun e w' => e = .returned (.tuple #[]) ∧ HpR w w' base b g cap n x := by
  subst ha
  exact up_any h hj hn hu
theorem down_at {w : World} {base b g cap N n : Nat} {x : Nat → Rt} (a : Int) (ha : a = (n : Int)) (h : Sq w base b g cap N x) (hnN : n ≤ N) (hN : N ≤ 1000) (hd : Dok leR n x 0) :
    Calls Tryz.prog 120 #[hI b, .int .i64 0, .int .i64 a] w fun e w' => (∃ r : Bool, e = .returned (.bool r)) ∧ DnR w w' base b g cap N n x := by
  subst ha
  exact down_any (j := 0) h hnN hN hd
set_option maxRecDepth 100000 in
set_option maxHeartbeats 4000000 in
theorem heap_PushN {w : World} {base b g cap n : Nat} {x : Nat → Rt} (h : Sq w base b g cap n x) (hk : Hok leR n x) (hn : n < 1000) (y : Rt) (hy : El w base y.p y.o y.k y.L) (hbs : base ≤ w.heap.size) :
    Calls Tryz.prog 105 #[hI b, .iface 37 y.v] w fun e w' => e = .returned (.tuple #[]) ∧ PuS w' base b (n + 1) (upd x n y) ∧ Below base w w' := by
  have CP := hidIt (rests_Push (p := y.p) (o := y.o) (n := y.L.length) (c := y.k) h.rs (by rw [vals_len]; omega) hbs)
  have CL := hidIt (fun a n c W => rests_Len a n c W)
  have HE : Hid (∀ W, Below base w W → ∀ i, i < n + 1 → El W base (upd x n y i).p (upd x n y i).o (upd x n y i).k (upd x n y i).L) := hidIt (fun W k i hi => by
    by_cases e : i = n
    · subst e
      rw [upd_at]
      exact hy.low k
    · rw [upd_ne e]
      exact (h.el i (by omega)).low k)
  have HQ : Hid (∀ W, Below base w W → Rs W base b (vals x n ++ [y.v]) → ∃ g cap, Sq W base b g cap (n + 1) (upd x n y)) := hidIt (fun W k r => Rs.sq (by rw [vals_push]; exact r) (HE.out W k))
  have HU := hidIt (push_ok hk y)
  have HB := hidIt h.hb
  clear h hy hk HE
  generalize upd x n y = z at HQ HU ⊢
  generalize vals x n = vs at CP HQ
  go_enter Tryz.func105, Tryz.ntmps105
  go_wp2_with (fail)
  refine CP.out.mono ?_
  rintro e w1 ⟨rfl, r1, k1⟩
  obtain ⟨g1, cap1, s1⟩ := HQ.out _ k1 r1
  have HS1 := hidIt s1
  have HK1 := hidIt k1
  have me := s1.c
  clear s1 r1 k1 CP
  go_wp2_with (fail)
  refine (CL.out _ _ _ _).mono ?_
  rintro e w2 ⟨rfl, rfl⟩
  go_wp2_with (fail)
  refine (up_at n _ ?_ HS1.out (by omega) (by omega) HU.out).mono ?_
  · first | omega | (simp; omega) | simp
  rintro e w3 ⟨rfl, ⟨x3, s3, o3, p3⟩, f3⟩
  have HR : Hid (PuS w3 base b (n + 1) z) := hidIt ⟨g1, cap1, x3, s3, o3, p3⟩
  have HK3 := hidIt (HK1.out.trans (f3.below HB.out HS1.out.gl.1 (Nat.le_trans hbs HK1.out.size)))
  clear s3 o3 p3 f3
  go_wp2_with (fail)
  exact bodyPost_end (v := .tuple #[]) (by simp [results, Tryz.results105, go_sem]) rfl ⟨rfl, HR.out, HK3.out⟩
set_option maxRecDepth 100000 in
set_option maxHeartbeats 4000000 in
theorem heap_PopN {w : World} {base b g cap n : Nat} {x : Nat → Rt} (h : Sq w base b g cap (n + 1) x) (hk : Hok leR (n + 1) x) (hn : n ≤ 999) :
    Calls Tryz.prog 115 #[hI b] w fun e w' => (∃ v, e = .returned v) ∧ NxS w' base b g cap n (swp x 0 n) ∧ Fr b g w w' := by
  have CL := hidIt (fun a n c W => rests_Len a n c W)
  have me := h.c
  have HS0 := hidIt h
  have HD := hidIt (pop_ok hk)
  clear h hk
  have hn' : (n : Int) ≤ 999 := by omega
  go_enter Tryz.func115, Tryz.ntmps115
  go_wp2_with (fail)
  refine (CL.out _ _ _ _).mono ?_
  rintro e w2 ⟨rfl, rfl⟩
  go_wp2_with (fail)
  refine (rests_SwapI 0 n _ _ ?_ ?_ HS0.out (by omega) (by omega) (by omega)).mono ?_
  · first | omega | rfl
  · first | omega | (simp; omega) | simp
  rintro e w3 ⟨rfl, s3, f3⟩
  have HS3 := hidIt s3
  have HF3 := hidIt f3
  have me3 := s3.c
  clear s3 f3
  go_wp2_with (fail)
  refine (down_at (n := n) _ ?_ HS3.out (by omega) (by omega) HD.out).mono ?_
  · first | omega | (simp; omega) | simp
  rintro e w4 ⟨⟨r, rfl⟩, x4, s4, o4, p4, q4, f4⟩
  have HS4 := hidIt s4
  have HO4 := hidIt o4
  have HP4 := hidIt p4
  have HF4 := hidIt (HF3.out.trans f4)
  have me4 := s4.c
  clear s4 o4 p4 q4 f4
  go_wp2_with (fail)
  refine (rests_PopN HS4.out (by omega)).mono ?_
  rintro e w5 ⟨⟨v, rfl⟩, s5, f5⟩
  have HR : Hid (NxS w5 base b g cap n (swp x 0 n)) := hidIt ⟨x4, s5, HO4.out, HP4.out⟩
  have HF5 := hidIt (HF4.out.trans f5)
  clear s5 f5
  go_wp2_with (fail)
  go_ret
  exact ⟨⟨_, rfl⟩, HR.out, HF5.out⟩
set_option maxRecDepth 100000 in
set_option maxHeartbeats 4000000 in
theorem heap_FixN {w : World} {base b g cap n : Nat} {x : Nat → Rt} (h : Sq w base b g cap n x) (hd : Dok leR n x 0) (hn : n ≤ 1000) :
    Calls Tryz.prog 116 #[hI b, .int .i64 0] w fun e w' => e = .returned (.tuple #[]) ∧ NxS w' base b g cap n x ∧ Fr b g w w' := by
  have CL := hidIt (fun a n c W => rests_Len a n c W)
  have CU := hidIt (fun W => up_none b W)
  have me := h.c
  have HS0 := hidIt h
  have HD := hidIt hd
  clear h hd
  go_enter Tryz.func116, Tryz.ntmps116
  go_wp2_with (fail)
  refine (CL.out _ _ _ _).mono ?_
  rintro e w2 ⟨rfl, rfl⟩
  go_wp2_with (fail)
  refine (down_at (n := n) _ ?_ HS0.out (Nat.le_refl _) hn HD.out).mono ?_
  · rfl
  rintro e w4 ⟨⟨r, rfl⟩, x4, s4, o4, p4, q4, f4⟩
  have HR : Hid (NxS w4 base b g cap n x) := hidIt ⟨x4, s4, o4, p4⟩
  have HF4 := hidIt f4
  clear s4 o4 p4 q4 f4
  cases r with
  | false =>
    go_wp2_with (fail)
    refine (CU.out _).mono ?_
    rintro e w5 ⟨rfl, rfl⟩
    go_wp2_with (fail)
    exact bodyPost_end (v := .tuple #[]) (by simp [results, Tryz.results116, go_sem]) rfl ⟨rfl, HR.out, HF4.out⟩
  | true =>
    go_wp2_with (fail)
    exact bodyPost_end (v := .tuple #[]) (by simp [results, Tryz.results116, go_sem]) rfl ⟨rfl, HR.out, HF4.out⟩
theorem NxS.other {w : World} {base b g cap n d : Nat} {x : Nat → Rt} (h : NxS w base b g cap n x) (hb : d ≠ b) (hg : d ≠ g) (hd : base ≤ d) (i : Nat) (v : Value) : NxS (w.setCell ⟨d, i, none⟩ v) base b g cap n x := by
  obtain ⟨y, s, o, p⟩ := h
  exact ⟨y, s.other hb hg hd i v, o, p⟩
theorem last_nx {w0 w : World} {base b g cap n d : Nat} {y : Nat → Rt} (x : Rw) (h : NxS w base b g cap n y) (f : Fr b g w0 w) (hx : Bo.Box w d zE) (hd : w0.heap.size ≤ d) (hbd : base ≤ d) (hb : d ≠ b) (hg : d ≠ g) :
    NxS (((((w.setCell ⟨d, 0, none⟩ (.string x.1)).setCell ⟨d, 1, none⟩ (.string x.2.1)).setCell ⟨d, 2, none⟩ (.int .i64 x.2.2.1)).setCell ⟨d, 3, none⟩ (.int .i64 x.2.2.2.1)).setCell ⟨d, 4, none⟩ (.bool x.2.2.2.2)) base b g cap n y ∧
    Fr b g w0 (((((w.setCell ⟨d, 0, none⟩ (.string x.1)).setCell ⟨d, 1, none⟩ (.string x.2.1)).setCell ⟨d, 2, none⟩ (.int .i64 x.2.2.1)).setCell ⟨d, 3, none⟩ (.int .i64 x.2.2.2.1)).setCell ⟨d, 4, none⟩ (.bool x.2.2.2.2)) ∧
    Bo.Box (((((w.setCell ⟨d, 0, none⟩ (.string x.1)).setCell ⟨d, 1, none⟩ (.string x.2.1)).setCell ⟨d, 2, none⟩ (.int .i64 x.2.2.1)).setCell ⟨d, 3, none⟩ (.int .i64 x.2.2.2.1)).setCell ⟨d, 4, none⟩ (.bool x.2.2.2.2)) d (rc x) :=
  ⟨((((h.other hb hg hbd 0 _).other hb hg hbd 1 _).other hb hg hbd 2 _).other hb hg hbd 3 _).other hb hg hbd 4 _,
   ((((f.setNew hd 0 _).setNew hd 1 _).setNew hd 2 _).setNew hd 3 _).setNew hd 4 _,
   ((((hx.put 0 _ (by decide) rfl).put 1 _ (by simp) rfl).put 2 _ (by simp) rfl).put 3 _ (by simp) rfl).put 4 _ (by simp) rfl⟩
set_option maxRecDepth 100000 in
set_option maxHeartbeats 2000000 in
theorem next_lastN {w : World} {base b g cap n p0 o0 k0 : Nat} {y : Nat → Rt} {x : Rw} (h : Sq w base b g cap (n + 1) y) (hk : Hok leR (n + 1) y) (hn : n ≤ 999) (h0 : y 0 = ⟨p0, o0, k0, [x]⟩) :
    Calls Tryz.prog 104 #[.pointer (some ⟨b, 0, none⟩)] w fun e w' => e = .returned (rv x) ∧ NxS w' base b g cap n (swp y 0 n) ∧ Fr b g w w' := by
  have HA := hidIt ((Below.refl w.heap.size w).alloc (Nat.le_refl _) (.cells zE 100))
  have HP := hidIt (h.kept HA.out)
  have BX := hidIt (Bo.Box.new w zE 100)
  have hbs : w.heap.size ≠ b := by have := h.bl; omega
  have hgs : w.heap.size ≠ g := by have := h.gl; omega
  have hbd : base ≤ w.heap.size := by have := h.gl; omega
  have me := HP.out.c
  have r0 := HP.out.row (i := 0) (by omega)
  have f0 := HP.out.rf 0
  have E0 := HP.out.el 0 (by omega)
  rw [h0] at E0 r0
  simp only [Rt.v, List.length_singleton] at E0 r0
  have R0 := hidIt (fun W (k : Fr b g (w.alloc (.cells zE 100)) W) => cells_one (E0.fr k h.hb h.gl.1).rd (by simp))
  have HFA := hidIt (Fr.of_below (b := b) (g := g) HA.out)
  have CP := hidIt (heap_PopN HP.out hk hn)
  clear h h0 E0 hk
  simp only [show rat [x] 0 = x from rfl] at R0
  generalize swp y 0 n = z at CP ⊢
  go_enter Tryz.func104, Tryz.ntmps104
  go_wp2_with (fail)
  refine CP.out.mono ?_
  rintro e w1 ⟨⟨v, rfl⟩, h1, f1⟩
  obtain ⟨c0, c1, c2, c3, c4⟩ := R0.out _ f1
  have BX1 := hidIt (box_fr BX.out f1 hbs hgs)
  have d0 := BX1.out.c 0 rfl
  have d1 := BX1.out.c 1 rfl
  have d2 := BX1.out.c 2 rfl
  have d3 := BX1.out.c 3 rfl
  have d4 := BX1.out.c 4 rfl
  have fz := BX1.out.fr
  have HL := hidIt (last_nx (w0 := w) x h1 (HFA.out.trans f1) BX1.out (Nat.le_refl _) hbd hbs hgs)
  clear h1 f1
  obtain ⟨xk, xv, xt, xn, xg⟩ := x
  simp only at c0 c1 c2 c3 c4 HL
  go_wp2_with (fail)
  generalize (((((w1.setCell ⟨w.heap.size, 0, none⟩ (.string xk)).setCell ⟨w.heap.size, 1, none⟩ (.string xv)).setCell ⟨w.heap.size, 2, none⟩ (.int .i64 xt)).setCell ⟨w.heap.size, 3, none⟩ (.int .i64 xn)).setCell ⟨w.heap.size, 4, none⟩ (.bool xg)) = w9 at HL ⊢
  have BX9 := HL.out.2.2
  have t0 := BX9.c 0 rfl
  have t1 := BX9.c 1 rfl
  have t2 := BX9.c 2 rfl
  have t3 := BX9.c 3 rfl
  have t4 := BX9.c 4 rfl
  refine bodyPost_ret (v := .agg #[.string xk, .string xv, .int .i64 xt, .int .i64 xn, .bool xg]) (by simp [results, Tryz.results104, go_sem, t0, t1, t2, t3, t4]) rfl ⟨rfl, HL.out.1, HL.out.2.1⟩
set_option maxRecDepth 100000 in
set_option maxHeartbeats 2000000 in
theorem next_moreN {w : World} {base b g cap n p0 o0 k0 m : Nat} {z : Nat → Rt} {x y : Rw} {L : List Rw} (h : Sq w base b g cap (n + 1) z) (hk : Hok leR (n + 1) z) (hn : n ≤ 999) (h0 : z 0 = ⟨p0, o0, k0, x :: y :: L⟩) (hm : L.length = m) :
    Calls Tryz.prog 104 #[.pointer (some ⟨b, 0, none⟩)] w fun e w' => e = .returned (rv x) ∧ NxS w' base b g cap (n + 1) (upd z 0 ⟨p0, o0 + 5, k0 - 1, y :: L⟩) ∧ Fr b g w w' := by
  have HA := hidIt ((Below.refl w.heap.size w).alloc (Nat.le_refl _) (.cells zE 100))
  have HP := hidIt (h.kept HA.out)
  have BX := hidIt (Bo.Box.new w zE 100)
  have hbs : w.heap.size ≠ b := by have := h.bl; omega
  have hgs : w.heap.size ≠ g := by have := h.gl; omega
  have hbd : base ≤ w.heap.size := by have := h.gl; omega
  have me := HP.out.c
  have r0 := HP.out.row (i := 0) (by omega)
  have f0 := HP.out.rf 0
  have E0 := HP.out.el 0 (by omega)
  rw [h0] at E0 r0
  simp only [Rt.v, List.length_cons, hm] at E0 r0
  have hk0 : m + 1 + 1 ≤ k0 := by have := E0.cap; simp [hm] at this; omega
  have R0 := hidIt (fun W (k : Fr b g (w.alloc (.cells zE 100)) W) => cells_one (E0.fr k h.hb h.gl.1).rd (by simp))
  have HFA := hidIt (Fr.of_below (b := b) (g := g) HA.out)
  have E1 : El (w.alloc (.cells zE 100)) base p0 (o0 + 5) (k0 - 1) (y :: L) := ⟨E0.rd.tail, E0.lt, by simp, by simp [hm]; omega⟩
  have HS := hidIt ((HP.out.put (i := 0) (by omega) ⟨p0, o0 + 5, k0 - 1, y :: L⟩ E1).drew)
  have HFS := hidIt (((Fr.refl b g (w.alloc (.cells zE 100))).setG 0 (Rt.v ⟨p0, o0 + 5, k0 - 1, y :: L⟩)).drew)
  have CF := hidIt (heap_FixN HS.out (fix_ok hk _) (by omega))
  clear h h0 E0 E1 hk
  generalize upd z 0 ⟨p0, o0 + 5, k0 - 1, y :: L⟩ = zz at CF HS ⊢
  simp only [Rt.v, List.length_cons, hm] at CF HS HFS
  simp only [show rat (x :: y :: L) 0 = x from rfl] at R0
  have hk1 : (1 : Int) ≤ ((m + 1 + 1 : Nat) : Int) := by omega
  have hk2 : ((m + 1 + 1 : Nat) : Int) ≤ (k0 : Int) := by omega
  have hk3 : ¬ ((m + 1 + 1 : Nat) : Int) = 1 := by omega
  have hk4 : ((m + 1 + 1 : Nat) == 1) = false := by simp
  clear hm
  go_enter Tryz.func104, Tryz.ntmps104
  go_wp2_with (fail)
  go_big_region
  go_wp2_with (fail)
  refine CF.out.mono ?_
  rintro e w1 ⟨rfl, h1, f1⟩
  have f2 := HFS.out.trans f1
  obtain ⟨c0, c1, c2, c3, c4⟩ := R0.out _ f2
  have BX1 := hidIt (box_fr BX.out f2 hbs hgs)
  have d0 := BX1.out.c 0 rfl
  have d1 := BX1.out.c 1 rfl
  have d2 := BX1.out.c 2 rfl
  have d3 := BX1.out.c 3 rfl
  have d4 := BX1.out.c 4 rfl
  have fz := BX1.out.fr
  have HL := hidIt (last_nx (w0 := w) x h1 (HFA.out.trans f2) BX1.out (Nat.le_refl _) hbd hbs hgs)
  clear h1 f1 f2
  obtain ⟨xk, xv, xt, xn, xg⟩ := x
  simp only at c0 c1 c2 c3 c4 HL
  go_wp2_with (fail)
  generalize (((((w1.setCell ⟨w.heap.size, 0, none⟩ (.string xk)).setCell ⟨w.heap.size, 1, none⟩ (.string xv)).setCell ⟨w.heap.size, 2, none⟩ (.int .i64 xt)).setCell ⟨w.heap.size, 3, none⟩ (.int .i64 xn)).setCell ⟨w.heap.size, 4, none⟩ (.bool xg)) = w9 at HL ⊢
  have BX9 := HL.out.2.2
  have t0 := BX9.c 0 rfl
  have t1 := BX9.c 1 rfl
  have t2 := BX9.c 2 rfl
  have t3 := BX9.c 3 rfl
  have t4 := BX9.c 4 rfl
  refine bodyPost_ret (v := .agg #[.string xk, .string xv, .int .i64 xt, .int .i64 xn, .bool xg]) (by simp [results, Tryz.results104, go_sem, t0, t1, t2, t3, t4]) rfl ⟨rfl, HL.out.1, HL.out.2.1⟩
end Go.Proofs.YtceddedlfdgbhaaGreatDoor.En
namespace Go.Proofs.YtceddedlfdgbhaaGreatDoor.En
open Go.ChangeShapes Go.WideShapes Go.ChangeAt Go.RowKit
open Go.Proofs.YtceddedlfdgbhaaGreatDoor.Bk (Bytes okE newB okBk Ris IsJoin joinB lessE putE Mq Nx)
open Go.Proofs.YtceddedlfdgbhaaGreatDoor.Hq
open Go.Proofs.YtceddedlfdgbhaaGreatDoor.Rc (BelowBy BelowBy.one wp_region_below calls_below calls_same)
set_option linter.unusedVariables false
theorem tot_map {α β : Type} (f : β → Nat) (g : α → β) (x : Nat → α) : ∀ n, tot f (fun i => g (x i)) n = tot (fun a => f (g a)) x n
  | 0 => rfl
  | n + 1 => by
    show tot f (fun i => g (x i)) n + f (g (x n)) = tot (fun a => f (g a)) x n + f (g (x n))
    rw [tot_map f g x n]
/-- The rests are the books that are not empty. -/
structure Ra (A : Nat → List Rw) (N n : Nat) (x : Nat → Rt) : Prop where
  from' : ∀ j, j < n → ∃ i, i < N ∧ (x j).L = A i
  to' : ∀ i, i < N → A i ≠ [] → ∃ j, j < n ∧ (x j).L = A i
  sum : tot (fun r : Rt => r.L.length) x n = tot List.length A N
  le : n ≤ N
theorem Ra.zero (A : Nat → List Rw) (x : Nat → Rt) : Ra A 0 0 x := ⟨fun j hj => absurd hj (by omega), fun j hj => absurd hj (by omega), rfl, by omega⟩
theorem Ra.skip {A : Nat → List Rw} {N n : Nat} {x : Nat → Rt} (h : Ra A N n x) (e : A N = []) : Ra A (N + 1) n x :=
  ⟨fun j hj => by obtain ⟨i, hi, q⟩ := h.from' j hj; exact ⟨i, by omega, q⟩,
   fun i hi hn => by
    by_cases q : i = N
    · subst q; exact absurd e hn
    · exact h.to' i (by omega) hn,
   by show _ = tot List.length A N + (A N).length; rw [e, h.sum]; rfl, by have := h.le; omega⟩
theorem Ra.push {A : Nat → List Rw} {N n : Nat} {x x' : Nat → Rt} {y : Rt} (h : Ra A N n x) (e : y.L = A N) (p : Per (n + 1) (upd x n y) x') : Ra A (N + 1) (n + 1) x' := by
  refine ⟨fun j hj => ?_, fun i hi hn => ?_, ?_, by have := h.le; omega⟩
  · obtain ⟨k, hk, q⟩ := p.from' j hj
    by_cases ek : k = n
    · subst ek
      rw [upd_at] at q
      exact ⟨N, by omega, by rw [q, e]⟩
    · rw [upd_ne ek] at q
      obtain ⟨i, hi, q2⟩ := h.from' k (by omega)
      exact ⟨i, by omega, by rw [q, q2]⟩
  · by_cases q : i = N
    · subst q
      obtain ⟨j, hj, q2⟩ := p.to' n (by omega)
      rw [upd_at] at q2
      exact ⟨j, hj, by rw [← q2, e]⟩
    · obtain ⟨k, hk, q2⟩ := h.to' i (by omega) hn
      obtain ⟨j, hj, q3⟩ := p.to' k (by omega)
      rw [upd_ne (by omega)] at q3
      exact ⟨j, hj, by rw [← q3, q2]⟩
  · rw [p.sum]
    show tot _ (upd x n y) n + (upd x n y n).L.length = tot List.length A N + (A N).length
    rw [tot_out _ (Nat.le_refl _), upd_at, h.sum, e]
theorem Sq.start (w : World) (x : Nat → Rt) : Sq ((w.alloc (.cells #[] 37)).alloc (.cells #[.slice (some ⟨w.heap.size, 0, none⟩) 0 0] 157)) w.heap.size (w.heap.size + 1) w.heap.size 0 0 x := by
  refine ⟨by omega, ?_, ?_, fun i hi => absurd hi (by omega)⟩
  · have := heap_alloc_new (w.alloc (.cells #[] 37)) (.cells #[.slice (some ⟨w.heap.size, 0, none⟩) 0 0] 157)
    simpa using this
  · have h0 : (w.alloc (.cells #[] 37)).ownsRow w.heap.size 37 1 (.slice (some ⟨w.heap.size, 0, none⟩) 0 0) 0 [] := World.ownsRow_made w #[] 0 (Nat.le_refl _) (by decide) rfl
    exact World.ownsRow.alloc h0 _
/-- What restsOf has made of the first i books. -/
def RoS (w wx : World) (A : Nat → List Rw) (i : Nat) : Prop := ∃ n x, (∃ g cap, Sq wx w.heap.size (w.heap.size + 1) g cap n x) ∧ Hok leR n x ∧ Ra A i n x ∧ Below w.heap.size w wx
/-- The books that come in. -/
structure Bks (w : World) (q N : Nat) (S : Nat → Option Addr × Nat × Nat) (A : Nat → List Rw) : Prop where
  cell : ∀ i, i < N → w.cell? ⟨q, i, none⟩ = some (.slice (S i).1 (S i).2.1 (S i).2.2)
  len : ∀ i, i < N → (S i).2.1 = (A i).length
  rd : ∀ i, i < N → Rd w (S i).1 (A i)
  le : ∀ i, i < N → (A i).length ≤ (S i).2.2
set_option maxRecDepth 100000 in
set_option maxHeartbeats 4000000 in
theorem impl_restsOfN {w : World} {q c N : Nat} {S : Nat → Option Addr × Nat × Nat} {A : Nat → List Rw} (h : Bks w q N S A) (hN : N ≤ 1000) (hql : q < w.heap.size) :
    Calls Tryz.prog 89 #[.slice (some ⟨q, 0, none⟩) N c] w fun e w' => e = .returned (.pointer (some ⟨w.heap.size + 1, 0, none⟩)) ∧ RoS w w' A N := by
  have Q0 := hidIt (fun W (k : Below w.heap.size w W) i hi => (k.cell (p := ⟨q, i, none⟩) hql).trans (h.cell i hi))
  have HE := hidIt (fun i hi hn => el_of (h.rd i hi) hn (h.le i hi))
  have HLen := hidIt h.len
  have HS0 : Hid (RoS w ((w.alloc (.cells #[] 37)).alloc (.cells #[.slice (some ⟨w.heap.size, 0, none⟩) 0 0] 157)) A 0) := hidIt ⟨0, fun _ => ⟨0, 0, 0, []⟩, ⟨_, _, Sq.start w _⟩, fun i h0 hi => absurd hi (by omega), Ra.zero A _, ((Below.refl w.heap.size w).alloc (Nat.le_refl _) (.cells #[] 37)).alloc (by simp) (.cells #[.slice (some ⟨w.heap.size, 0, none⟩) 0 0] 157)⟩
  clear h hql
  go_enter Tryz.func89, Tryz.ntmps89
  go_wp2_with (fail)
  generalize (w.alloc (.cells #[] 37)).alloc (.cells #[.slice (some ⟨w.heap.size, 0, none⟩) 0 0] 157) = w1 at HS0 ⊢
  go_loopw [10] (fun y wx => ∃ i : Nat, y = .int .i64 i ∧ i ≤ N ∧ Hid (RoS w wx A i)) (fun y _ => (N - intOf y).toNat)
  case atStart => exact ⟨0, rfl, by omega, HS0⟩
  case round =>
    obtain ⟨i, rfl, hiN, HS⟩ := hrel
    by_cases hi : i < N
    · have hi' : (i : Int) < (N : Int) := by omega
      have hi2 : (N : Int) ≤ 1000 := by omega
      have hB : Below w.heap.size w wr := by obtain ⟨_, _, _, _, _, b⟩ := HS.out; exact b
      have c0 := Q0.out _ hB i hi
      have hl := HLen.out i hi
      rcases hSi : S i with ⟨s0, s1, s2⟩
      rw [hSi] at c0 hl
      simp only at c0 hl
      subst hl
      clear hB
      by_cases hn : A i = []
      · have HS2 : Hid (RoS w wr A (i + 1)) := hidIt (by
          obtain ⟨n, x, s, o, r, b⟩ := HS.out
          exact ⟨n, x, s, o, r.skip hn, b⟩)
        have hl0 : (A i).length = 0 := by rw [hn]; rfl
        rw [hl0] at c0
        clear hn hl0
        go_wp2_with (fail)
        exact ⟨⟨i + 1, by first | rfl | simp, by omega, HS2⟩, by simp [intOf]; omega⟩
      · obtain ⟨p, o, ea, eA⟩ := HE.out i hi hn
        rw [hSi] at ea eA
        simp only at ea eA
        subst ea
        have hp : 0 < (A i).length := eA.pos
        have hp' : (0 : Int) < ((A i).length : Int) := by omega
        have CP : Hid (Calls Tryz.prog 105 #[hI (w.heap.size + 1), .iface 37 (sv p o (A i).length s2)] wr fun e w' => e = .returned (.tuple #[]) ∧ RoS w w' A (i + 1)) := hidIt (by
          obtain ⟨n, x, ⟨g, cap, s⟩, ok, r, b⟩ := HS.out
          refine (heap_PushN s ok (by have := r.le; omega) ⟨p, o, s2, A i⟩ (eA.low b) b.size).mono ?_
          rintro e w2 ⟨rfl, ⟨g2, cap2, x2, s2', o2, p2⟩, k2⟩
          exact ⟨rfl, n + 1, x2, ⟨g2, cap2, s2'⟩, o2, r.push rfl p2, b.trans k2⟩)
        clear hn HS eA HE
        generalize (A i).length = la at *
        go_wp2_with (fail)
        refine CP.out.mono ?_
        rintro e w2 ⟨rfl, r2⟩
        have HS2 := hidIt r2
        clear r2
        go_wp2_with (fail)
        exact ⟨⟨i + 1, by first | rfl | simp, by omega, HS2⟩, by simp [intOf]; omega⟩
    · have e : i = N := by omega
      subst e
      go_wp2_with (fail)
      go_ret
      exact ⟨rfl, HS.out⟩
/-- What is left behind one step. -/
def NexR (w : World) (base b g cap n : Nat) (x : Nat → Rt) (e : Rw) (X : List Rw) : Prop := ∃ m x', Sq w base b g cap m x' ∧ Hok leR m x' ∧ Nx n (fun i => toB (x i).L) (toE e) (toB X) m (fun i => toB (x' i).L) ∧ m ≤ n
theorem nx_last {m : Nat} {x x' : Nat → Rt} {e : Rw} (h0 : (x 0).L = [e]) (hr : ∀ i, i < m + 1 → Ris (toB (x i).L)) (p : Per m (swp x 0 m) x') : Nx (m + 1) (fun i => toB (x i).L) (toE e) (toB []) m (fun i => toB (x' i).L) := by
  have from' : ∀ i, i < m → ∃ j, j < m + 1 ∧ x' i = x j := fun i hi => by
    obtain ⟨j, hj, q⟩ := p.from' i hi
    by_cases e0 : j = 0
    · subst e0
      rw [swp_i] at q
      exact ⟨m, by omega, q⟩
    · rw [swp_ne e0 (by omega)] at q
      exact ⟨j, by omega, q⟩
  refine ⟨fun i hi a ha => ?_, fun a ha => ?_, fun i hi => ?_, ?_⟩
  · obtain ⟨j, hj, q⟩ := from' i hi
    rw [q] at ha
    exact .inr ⟨j, hj, ha⟩
  · rcases ha with ha | ⟨j, hj, hj2, ha⟩
    · simp at ha
    · have : ∃ k, k < m ∧ swp x 0 m k = x j := by
        by_cases em : j = m
        · subst em
          exact ⟨0, hj, swp_i ..⟩
        · exact ⟨j, by omega, swp_ne (by omega) em⟩
      obtain ⟨k, hk, q⟩ := this
      obtain ⟨i, hi, q2⟩ := p.to' k hk
      exact ⟨i, hi, by show a ∈ toB (x' i).L; rw [← q2, q]; exact ha⟩
  · obtain ⟨j, hj, q⟩ := from' i hi
    show Ris (toB (x' i).L)
    rw [q]
    exact hr j hj
  · have h1 := tot_map List.length (fun r : Rt => toB r.L) x' m
    have h2 := tot_map List.length (fun r : Rt => toB r.L) x (m + 1)
    have h3 := p.sum (fun r : Rt => (toB r.L).length)
    have h4 := tot_swp (fun r : Rt => (toB r.L).length) (x := x) (i := 0) (j := m) (n := m + 1) (by omega) (by omega)
    have h5 : tot (fun r : Rt => (toB r.L).length) (swp x 0 m) (m + 1) = tot (fun r : Rt => (toB r.L).length) (swp x 0 m) m + (toB (swp x 0 m m).L).length := rfl
    rw [swp_j, h0] at h5
    simp only [toB_length, List.length_singleton] at *
    omega
theorem nx_more {n : Nat} {x x' : Nat → Rt} {e : Rw} {X : List Rw} {y : Rt} (hn : 0 < n) (h0 : (x 0).L = e :: X) (hr : ∀ i, i < n → Ris (toB (x i).L)) (hy : y.L = X) (p : Per n (upd x 0 y) x') : Nx n (fun i => toB (x i).L) (toE e) (toB X) n (fun i => toB (x' i).L) := by
  refine ⟨fun i hi a ha => ?_, fun a ha => ?_, fun i hi => ?_, ?_⟩
  · obtain ⟨j, hj, q⟩ := p.from' i hi
    by_cases e0 : j = 0
    · subst e0
      rw [upd_at] at q
      rw [q, hy] at ha
      exact .inl ha
    · rw [upd_ne e0] at q
      rw [q] at ha
      exact .inr ⟨j, hj, ha⟩
  · rcases ha with ha | ⟨j, hj, hj2, ha⟩
    · obtain ⟨i, hi, q⟩ := p.to' 0 hn
      rw [upd_at] at q
      exact ⟨i, hi, by show a ∈ toB (x' i).L; rw [← q, hy]; exact ha⟩
    · obtain ⟨i, hi, q⟩ := p.to' j hj2
      rw [upd_ne (by omega)] at q
      exact ⟨i, hi, by show a ∈ toB (x' i).L; rw [← q]; exact ha⟩
  · obtain ⟨j, hj, q⟩ := p.from' i hi
    show Ris (toB (x' i).L)
    rw [q]
    by_cases e0 : j = 0
    · subst e0
      rw [upd_at, hy]
      have := hr 0 hn
      rw [h0] at this
      exact (Bk.ris_cons.1 this).2
    · rw [upd_ne e0]
      exact hr j hj
  · have h1 := tot_map List.length (fun r : Rt => toB r.L) x' n
    have h2 := tot_map List.length (fun r : Rt => toB r.L) x n
    have h3 := p.sum (fun r : Rt => (toB r.L).length)
    have h4 := tot_upd (fun r : Rt => (toB r.L).length) (x := x) (i := 0) (y := y) (n := n) hn
    rw [h0, hy] at h4
    simp only [toB_length, List.length_cons] at *
    omega
theorem next_anyN {w : World} {base b g cap n : Nat} {x : Nat → Rt} {e : Rw} {X : List Rw} (h : Sq w base b g cap n x) (hk : Hok leR n x) (hn0 : 0 < n) (hn : n ≤ 1000) (h0 : (x 0).L = e :: X) (hr : ∀ i, i < n → Ris (toB (x i).L)) :
    Calls Tryz.prog 104 #[.pointer (some ⟨b, 0, none⟩)] w fun e' w' => e' = .returned (rv e) ∧ NexR w' base b g cap n x e X ∧ Fr b g w w' := by
  obtain ⟨m, rfl⟩ : ∃ m, n = m + 1 := ⟨n - 1, by omega⟩
  rcases hx : x 0 with ⟨p, o, k, L⟩
  rw [hx] at h0
  simp only at h0
  subst h0
  cases X with
  | nil =>
    refine (next_lastN h hk (by omega) hx).mono ?_
    rintro e' w' ⟨rfl, ⟨x', s, ok, pr⟩, f⟩
    exact ⟨rfl, ⟨m, x', s, ok, nx_last (by rw [hx]) hr pr, by omega⟩, f⟩
  | cons y L =>
    refine (next_moreN h hk (by omega) hx rfl).mono ?_
    rintro e' w' ⟨rfl, ⟨x', s, ok, pr⟩, f⟩
    exact ⟨rfl, ⟨m + 1, x', s, ok, nx_more (by omega) (by rw [hx]) hr rfl pr, Nat.le_refl _⟩, f⟩
theorem top_all {w : World} {base b g cap n : Nat} {x : Nat → Rt} {e : Rw} {X : List Rw} (h : Sq w base b g cap n x) (hk : Hok leR n x) (h0 : (x 0).L = e :: X) (hr : ∀ i, i < n → Ris (toB (x i).L)) : ∀ i, i < n → ∀ a ∈ toB (x i).L, ¬ a.key < (toE e).key := by
  intro i hi a ha
  have h1 : ¬ keyR (x i) < keyR (x 0) := top_le leR_refl leR_trans hk i hi
  have e0 : keyR (x 0) = (toE e).key := by unfold keyR; rw [h0]; rfl
  rw [e0] at h1
  have hp := (h.el i hi).pos
  have hri := hr i hi
  refine not_lt_trans h1 ?_
  unfold keyR
  cases hL : (x i).L with
  | nil => rw [hL] at hp; simp at hp
  | cons f F =>
    rw [hL] at ha hri
    rcases List.mem_cons.1 ha with rfl | ha
    · exact List.lt_irrefl _
    · have := (Bk.ris_cons.1 hri).1 a ha
      exact fun q => List.lt_irrefl _ (List.lt_trans this q)
/-- Behind one step: what is left, and what has gone. -/
def AfterN (w : World) (base b g cap k N : Nat) (K : Bytes → Prop) (J : List Bk.En) : Prop := ∃ m x, Sq w base b g cap m x ∧ Hok leR m x ∧ Mq K N J m (fun i => toB (x i).L) ∧ tot List.length (fun i => toB (x i).L) m + 1 ≤ k ∧ m ≤ 1000
theorem AfterN.low {w w' : World} {base b g cap k N B : Nat} {K : Bytes → Prop} {J : List Bk.En} (h : AfterN w base b g cap k N K J) (h' : Below B w w') (hb : b < B) (hg : g < B) (hs : base ≤ B) : AfterN w' base b g cap k N K J := by
  obtain ⟨m, x, h1, h2, h3, h4, h5⟩ := h
  exact ⟨m, x, h1.low h' hb hg hs, h2, h3, h4, h5⟩
theorem AfterN.kept {w w' : World} {base b g cap k N : Nat} {K : Bytes → Prop} {J : List Bk.En} (h : AfterN w base b g cap k N K J) (h' : Below w.heap.size w w') : AfterN w' base b g cap k N K J := by
  obtain ⟨m, x, h1, h2, h3, h4, h5⟩ := h
  exact ⟨m, x, h1.kept h', h2, h3, h4, h5⟩
theorem afterN_of {w w' : World} {base b g cap n k N : Nat} {K : Bytes → Prop} {J : List Bk.En} {x : Nat → Rt} {e : Rw} {X : List Rw} (h : Sq w base b g cap n x) (hk : Hok leR n x) (hn0 : 0 < n) (hn : n ≤ 1000) (h0 : (x 0).L = e :: X) (m : Mq K N J n (fun i => toB (x i).L)) (ht : tot List.length (fun i => toB (x i).L) n ≤ k) (r : NexR w' base b g cap n x e X) : AfterN w' base b g cap k N K (putE J (toE e)) := by
  obtain ⟨q, x', s, ok, nx, le⟩ := r
  refine ⟨q, x', s, ok, m.step hn0 (by show toB (x 0).L = _; rw [h0]; rfl) (top_all h hk h0 m.each) nx, ?_, by omega⟩
  have := nx.sum
  omega
/-- Where newest stands. -/
def NowN (w0 w : World) (base b g cap k N : Nat) (K : Bytes → Prop) (v : Value) : Prop := ∃ J n x, Own w w0.heap.size v J ∧ Sq w base b g cap n x ∧ Hok leR n x ∧ Mq K N (toB J) n (fun i => toB (x i).L) ∧ tot List.length (fun i => toB (x i).L) n ≤ k ∧ n ≤ 1000 ∧ Below base w0 w
theorem nowN_of {w0 w : World} {base b g cap k N : Nat} {K : Bytes → Prop} {J : List Rw} {PJ : List Bk.En} {v : Value} (o : Own w w0.heap.size v J) (a : AfterN w base b g cap k N K PJ) (e : PJ = toB J) (hb : Below base w0 w) : NowN w0 w base b g cap (k - 1) N K v := by
  obtain ⟨m, x, s, ok, q, hk, hm⟩ := a
  subst e
  exact ⟨J, m, x, o, s, ok, q, by omega, hm, hb⟩
set_option maxRecDepth 100000 in
set_option maxHeartbeats 4000000 in
theorem impl_newestN {w : World} {base b g cap n N : Nat} {x : Nat → Rt} (h : Sq w base b g cap n x) (hk : Hok leR n x) (hn : n ≤ 1000) (hr : ∀ i, i < n → Ris (toB (x i).L)) (hN : tot List.length (fun i => toB (x i).L) n ≤ N) (hN1 : N ≤ 100000) :
    Calls Tryz.prog 88 #[.pointer (some ⟨b, 0, none⟩)] w fun e w' => ∃ v J, e = .returned v ∧ Own w' w.heap.size v J ∧ Ris (toB J) ∧ (∀ k, (∃ i, i < n ∧ ∃ e ∈ toB (x i).L, e.key = k) ↔ ∃ e ∈ toB J, e.key = k) ∧ J.length ≤ N ∧ Below base w w' := by
  obtain ⟨i0, hi0, hz0, hz1, hz2⟩ := info_parts infoRw
  have hb := h.hb
  have hg := h.gl.1
  have hgl := h.gl.2
  have hbl := h.bl
  have hs : base ≤ w.heap.size := by omega
  have CL := hidIt (fun a n c W => rests_Len a n c W)
  have HN0 : Hid (NowN w (w.alloc (.cells #[] 100)) base b g cap N N (fun k => ∃ i, i < n ∧ ∃ e ∈ toB (x i).L, e.key = k) (.slice (some ⟨w.heap.size, 0, none⟩) 0 0)) := hidIt (by
    have ka := (Below.refl w.heap.size w).alloc (Nat.le_refl _) (.cells #[] 100)
    have ms := Mq.start (n := n) (y := fun i => toB (x i).L) hr
    exact ⟨[], n, x, Own.new w, h.kept ka, hk, ⟨ms.ris, ms.each, ms.keys, ms.ahead, by have := ms.len; simp at this ⊢; omega⟩, hN, hn, ka.mono hs⟩)
  clear h hk hr hN
  generalize hK : (fun k => ∃ i, i < n ∧ ∃ e ∈ toB (x i).L, e.key = k) = K at HN0
  have HKe : Hid (∀ J : List Rw, (∀ k, K k ↔ ∃ e ∈ toB J, e.key = k) → ∀ k, (∃ i, i < n ∧ ∃ e ∈ toB (x i).L, e.key = k) ↔ ∃ e ∈ toB J, e.key = k) := hidIt (fun J q k => by rw [← hK] at q; exact q k)
  clear hK
  generalize (fun k => ∃ i, i < n ∧ ∃ e ∈ toB (x i).L, e.key = k) = KK at *
  go_enter Tryz.func88, Tryz.ntmps88
  go_wp2_with (fail)
  generalize w.alloc (.cells #[] 100) = w1 at HN0 ⊢
  go_loopg [3] N (fun kx s3 wx => Hid (NowN w wx base b g cap kx N K s3))
  case atStart => exact HN0
  case round =>
    obtain ⟨J, n, x, o1, s1, ok1, m1, hk, hn1, b1⟩ := hrel.out
    have HO := hidIt o1
    have HS := hidIt s1
    have HOk := hidIt ok1
    have HM := hidIt m1
    have HB := hidIt b1
    have hc := s1.c
    clear o1 s1 ok1 m1 b1 hrel HN0
    rcases Nat.eq_zero_or_pos n with rfl | hn0
    · have HJ : Hid (∀ k, K k ↔ ∃ e ∈ toB J, e.key = k) := hidIt (fun k => by
        rw [HM.out.keys k]
        constructor
        · rintro (q | ⟨i, hi, _⟩)
          · exact q
          · omega
        · exact .inl)
      have HJR := hidIt HM.out.ris
      have HJL : Hid (J.length ≤ N) := hidIt (by have := HM.out.len; simp at this; omega)
      clear HM HS HOk
      go_wp2_with (fail)
      refine (CL.out _ _ _ _).mono ?_
      rintro e w2 ⟨rfl, rfl⟩
      go_wp2_with (fail)
      go_ret
      exact ⟨_, J, rfl, HO.out, HJR.out, HKe.out J HJ.out, HJL.out, HB.out⟩
    · obtain ⟨x0, X, hx0⟩ : ∃ x0 X, (x 0).L = x0 :: X := by
        have := (HS.out.el 0 hn0).pos
        cases hL : (x 0).L with
        | nil => rw [hL] at this; simp at this
        | cons f F => exact ⟨f, F, rfl⟩
      have CN := hidIt (next_anyN HS.out HOk.out hn0 hn1 hx0 HM.out.each)
      have hn' : (0 : Int) < (n : Int) := by omega
      have HA := hidIt (fun W s1 => afterN_of (w' := W) HS.out HOk.out hn0 hn1 hx0 HM.out hk s1)
      have HTP : Hid (1 ≤ tot List.length (fun i => toB (x i).L) n) := hidIt (by
        have := tot_upd List.length (x := fun i => toB (x i).L) (i := 0) (y := []) (n := n) hn0
        simp [hx0] at this
        omega)
      have HJL : Hid (J.length ≤ 99999) := hidIt (by have := HM.out.len; have := HTP.out; simp at *; omega)
      have HJK : Hid (gk ≠ 0) := hidIt (by have := HTP.out; omega)
      clear HS HM HOk hk HTP hx0
      generalize x0 = x at CN HA
      go_wp2_with (fail)
      refine (CL.out _ _ _ _).mono ?_
      rintro e w2 ⟨rfl, rfl⟩
      go_wp2_with (fail)
      refine CN.out.mono ?_
      rintro e w3 ⟨rfl, s3, f3⟩
      have HF3 := hidIt (HA.out _ s3)
      have HO3 := hidIt (HO.out.fr f3 hbl hgl)
      have HB3 := hidIt (HB.out.trans (f3.below hb hg (Nat.le_trans hs HB.out.size)))
      have HZ3 := hidIt (Nat.le_trans HB.out.size f3.size)
      clear s3 f3 HO HB HA CN hc
      have HPS := hidIt (fun j h e => put_same (J := J) (j := j) (x := x) h e)
      have HPM := hidIt (fun j h e => put_more (J := J) (j := j) (x := x) h e)
      have HPF := hidIt (fun (e : J = []) => show putE (toB J) (toE x) = toB (J ++ [x]) by rw [e]; exact put_first)
      generalize putE (toB J) (toE x) = PJ at HF3 HPS HPM HPF
      obtain ⟨xk, xv, xt, xn, xg⟩ := x
      simp only at HPS HPM
      obtain ⟨za, zc, ez, hle, hcm, hrd, _, hsome⟩ := HO3.out.form
      have HFM := hidIt hrd
      clear hrd hsome
      subst ez
      generalize hjl : J.length = jl at *
      have HJLn := hidIt hjl
      clear hjl
      go_wp2_with (fail)
      have BX := hidIt (Bo.Box.new w3 #[.string xk, .string xv, .int .i64 xt, .int .i64 xn, .bool xg] 100)
      have HAl := hidIt ((Below.refl w3.heap.size w3).alloc (Nat.le_refl _) (.cells #[.string xk, .string xv, .int .i64 xt, .int .i64 xn, .bool xg] 100))
      generalize hz : w3.alloc (.cells #[.string xk, .string xv, .int .i64 xt, .int .i64 xn, .bool xg] 100) = wz at BX HAl ⊢
      clear hz
      have HFz := hidIt (HF3.out.kept HAl.out)
      have HOz := hidIt (HO3.out.kept HAl.out)
      have HBz := hidIt (HB3.out.trans (HAl.out.mono (Nat.le_trans hs HZ3.out)))
      have HZz := hidIt (Nat.le_trans HZ3.out HAl.out.size)
      have HRz := hidIt (HFM.out.kept HAl.out)
      clear HF3 HO3 HB3 HZ3 HAl HFM
      haveI := BelowBy.one wz
      have g0 := fun p : BelowBy wz => p.cell (BX.out.c 0 rfl)
      generalize hbk : w3.heap.size = bk at BX g0 ⊢
      clear hbk
      rcases Nat.eq_zero_or_pos jl with hj | hj
      · subst hj
        refine wp_region_below (by kernel_rfl) (by kernel_rfl) ?_
        repeat (go_big_quiet_step (fail))
        refine wpQuiet_nil ?_
        intro _ hw'
        obtain ⟨pq, rfl⟩ := hw'
        have kq := pq.h
        generalize pq.world = w4 at kq ⊢
        have HF4 := hidIt (HFz.out.kept kq)
        have HO4 := hidIt (HOz.out.kept kq)
        have HB4 := hidIt (HBz.out.trans (kq.mono (Nat.le_trans hs HZz.out)))
        have HZ4 := hidIt (Nat.le_trans HZz.out kq.size)
        have BX4 := hidIt (BX.out.kept kq)
        clear kq HFz HOz HBz HZz BX g0
        have t0 := BX4.out.c 0 rfl
        have t1 := BX4.out.c 1 rfl
        have t2 := BX4.out.c 2 rfl
        have t3 := BX4.out.c 3 rfl
        have t4 := BX4.out.c 4 rfl
        have HOw : Hid (w4.ownsRow w.heap.size 100 5 (.slice za 0 zc) 0 (rcells J)) := hidIt (by have := HO4.out; unfold Own at this; rw [HJLn.out] at this; exact this)
        go_wp2_with (first | (at_builtin; refine wpList_append_own _ rfl _ _ 37 rfl w.heap.size 100 i0 (.agg #[.string ByteArray.empty, .string ByteArray.empty, .int .i64 0, .int .i64 0, .bool false]) 5 56 Tryz.underlying37 hi0 hz0 hz1 hz2 rfl (by decide) _ _ _ rfl (World.ownsRow.alloc HOw.out (.cells #[.string xk, .string xv, .int .i64 xt, .int .i64 xn, .bool xg] 100)) ⟨w4.heap.size, 0, none⟩ 1 1 [.string xk, .string xv, .int .i64 xt, .int .i64 xn, .bool xg] rfl rfl (fresh w4 (xk, xv, xt, xn, xg) 100) (rcells_one [(xk, xv, xt, xn, xg)]) ?ca1 ?ca2 ?ca3 ?_))
        case ca1 => unfold maxLen; have := HJL.out; omega
        case ca2 => have := HJL.out; omega
        case ca3 => have := HZ4.out; simp; omega
        intro v' w9 hown hgrow _
        have ka := (Below.refl w4.heap.size w4).alloc (Nat.le_refl _) (.cells #[.string xk, .string xv, .int .i64 xt, .int .i64 xn, .bool xg] 100)
        have kk := grown_below (HO4.out.kept ka) (by exact hgrow) (Nat.le_refl _) (Nat.le_trans HZ4.out ka.size)
        have k9 := (ka.mono HZ4.out).trans kk
        have HO9 : Hid (Own w9 w.heap.size v' (J ++ [(xk, xv, xt, xn, xg)])) := hidIt (Own.more (L := J) (M := [(xk, xv, xt, xn, xg)]) (by rw [HJLn.out]; exact hown))
        have HF9 := hidIt (HF4.out.low k9 hbl hgl hs)
        have HB9 := hidIt (HB4.out.trans (k9.mono hs))
        have HE9 := hidIt (HPF.out (List.length_eq_zero_iff.1 HJLn.out))
        clear hown hgrow ka kk k9
        go_wp2_with (fail)
        go_roundg (gk - 1)
        case measure => have := HJK.out; omega
        case rel => exact hidIt (nowN_of HO9.out HF9.out HE9.out HB9.out)
      · obtain ⟨j, rfl⟩ : ∃ j, jl = j + 1 := ⟨jl - 1, by omega⟩
        obtain ⟨zb, zo, eza, l0, _⟩ := HRz.out.all (i := j) (by rw [HJLn.out]; omega)
        subst eza
        obtain ⟨lk, elk⟩ : ∃ s, (rat J j).1 = s := ⟨_, rfl⟩
        have HPS1 := hidIt (fun e => HPS.out j rfl e)
        have HPM1 := hidIt (fun e => HPM.out j rfl e)
        rw [elk] at l0 HPS1 HPM1
        clear elk HPS HPM HPF HRz
        have k0 := fun p : BelowBy wz => p.cell l0
        clear l0
        have heq := eq_of lk xk
        have hjz : ((j : Int) + 1 == 0) = false := by simp; omega
        have hj1 : (j : Int) < (j : Int) + 1 := by omega
        have hj2 : (j : Int) ≤ 100000 := by have := HJL.out; omega
        have hj3 : (0 : Int) ≤ (j : Int) := by omega
        by_cases hk : bs lk = bs xk
        · have HE0 := hidIt (HPS1.out hk)
          rw [decide_eq_true hk] at heq
          clear hk HPS1 HPM1
          refine wp_region_below (by kernel_rfl) (by kernel_rfl) ?_
          repeat (go_big_quiet_step (fail))
          refine wpQuiet_nil ?_
          intro _ hw'
          obtain ⟨pq, rfl⟩ := hw'
          have kq := pq.h
          generalize pq.world = w4 at kq ⊢
          have HF4 := hidIt (HFz.out.kept kq)
          have HO4 := hidIt (HOz.out.kept kq)
          have HB4 := hidIt (HBz.out.trans (kq.mono (Nat.le_trans hs HZz.out)))
          have HZ4 := hidIt (Nat.le_trans HZz.out kq.size)
          have BX4 := hidIt (BX.out.kept kq)
          clear kq HFz HOz HBz HZz BX g0 k0
          have t0 := BX4.out.c 0 rfl
          have t1 := BX4.out.c 1 rfl
          have t2 := BX4.out.c 2 rfl
          have t3 := BX4.out.c 3 rfl
          have t4 := BX4.out.c 4 rfl
          have HE9 := hidIt (HE0.out)
          go_wp2_with (fail)
          go_roundg (gk - 1)
          case measure => have := HJK.out; omega
          case rel => exact hidIt (nowN_of HO4.out HF4.out HE9.out HB4.out)
        · have HE0 := hidIt (HPM1.out hk)
          rw [decide_eq_false hk] at heq
          clear hk HPS1 HPM1
          refine wp_region_below (by kernel_rfl) (by kernel_rfl) ?_
          repeat (go_big_quiet_step (fail))
          refine wpQuiet_nil ?_
          intro _ hw'
          obtain ⟨pq, rfl⟩ := hw'
          have kq := pq.h
          generalize pq.world = w4 at kq ⊢
          have HF4 := hidIt (HFz.out.kept kq)
          have HO4 := hidIt (HOz.out.kept kq)
          have HB4 := hidIt (HBz.out.trans (kq.mono (Nat.le_trans hs HZz.out)))
          have HZ4 := hidIt (Nat.le_trans HZz.out kq.size)
          have BX4 := hidIt (BX.out.kept kq)
          clear kq HFz HOz HBz HZz BX g0 k0
          have t0 := BX4.out.c 0 rfl
          have t1 := BX4.out.c 1 rfl
          have t2 := BX4.out.c 2 rfl
          have t3 := BX4.out.c 3 rfl
          have t4 := BX4.out.c 4 rfl
          have HOw : Hid (w4.ownsRow w.heap.size 100 5 (.slice (some ⟨zb, zo, none⟩) (j + 1) zc) (j + 1) (rcells J)) := hidIt (by have := HO4.out; unfold Own at this; rw [HJLn.out] at this; exact this)
          go_wp2_with (first | (at_builtin; refine wpList_append_own _ rfl _ _ 37 rfl w.heap.size 100 i0 (.agg #[.string ByteArray.empty, .string ByteArray.empty, .int .i64 0, .int .i64 0, .bool false]) 5 56 Tryz.underlying37 hi0 hz0 hz1 hz2 rfl (by decide) _ _ _ rfl (World.ownsRow.alloc HOw.out (.cells #[.string xk, .string xv, .int .i64 xt, .int .i64 xn, .bool xg] 100)) ⟨w4.heap.size, 0, none⟩ 1 1 [.string xk, .string xv, .int .i64 xt, .int .i64 xn, .bool xg] rfl rfl (fresh w4 (xk, xv, xt, xn, xg) 100) (rcells_one [(xk, xv, xt, xn, xg)]) ?cb1 ?cb2 ?cb3 ?_))
          case cb1 => unfold maxLen; have := HJL.out; omega
          case cb2 => have := HJL.out; omega
          case cb3 => have := HZ4.out; simp; omega
          intro v' w9 hown hgrow _
          have ka := (Below.refl w4.heap.size w4).alloc (Nat.le_refl _) (.cells #[.string xk, .string xv, .int .i64 xt, .int .i64 xn, .bool xg] 100)
          have kk := grown_below (HO4.out.kept ka) (by exact hgrow) (Nat.le_refl _) (Nat.le_trans HZ4.out ka.size)
          have k9 := (ka.mono HZ4.out).trans kk
          have HO9 : Hid (Own w9 w.heap.size v' (J ++ [(xk, xv, xt, xn, xg)])) := hidIt (Own.more (L := J) (M := [(xk, xv, xt, xn, xg)]) (by rw [HJLn.out]; exact hown))
          have HF9 := hidIt (HF4.out.low k9 hbl hgl hs)
          have HB9 := hidIt (HB4.out.trans (k9.mono hs))
          have HE9 := hidIt (HE0.out)
          clear hown hgrow ka kk k9
          go_wp2_with (fail)
          go_roundg (gk - 1)
          case measure => have := HJK.out; omega
          case rel => exact hidIt (nowN_of HO9.out HF9.out HE9.out HB9.out)
end Go.Proofs.YtceddedlfdgbhaaGreatDoor.En
namespace Go.Proofs.YtceddedlfdgbhaaGreatDoor.Mk
set_option linter.unusedVariables false
/-- All of them joined, one after the other. -/
def whole (G : List (List En)) : List En := G.foldl mergeE []
def AllRis (G : List (List En)) : Prop := ∀ b ∈ G, Ris b
theorem pick_or (x y : Option En) : pickE x y = x ∨ pickE x y = y := by
  cases x with
  | none => exact .inr rfl
  | some a =>
    cases y with
    | none => exact .inl rfl
    | some b =>
      show some _ = some a ∨ some _ = some b
      cases newB b a
      · exact .inl rfl
      · exact .inr rfl
theorem merge_ris {A B : List En} (hA : Ris A) (hB : Ris B) : Ris (mergeE A B) := (merge_join A B hA hB).ris
theorem merge_look {A B : List En} (hA : Ris A) (hB : Ris B) (k : Int) : look (mergeE A B) k = pickE (look A k) (look B k) := (merge_join A B hA hB).at' k
/-- m is the Newest of all under the Key k. -/
structure Top (k : Int) (G : List (List En)) (m : Option En) : Prop where
  key : KeyAt k m
  ub : ∀ b ∈ G, pickE (look b k) m = m
  mem : m = none ∨ ∃ b ∈ G, look b k = m
theorem Top.none_of {k : Int} {G : List (List En)} (h : Top k G none) {b : List En} (hb : b ∈ G) : look b k = none := by
  have := h.ub b hb
  rw [pick_none_right] at this
  exact this
theorem Top.unique {k : Int} {G : List (List En)} {m m' : Option En} (h : Top k G m) (h' : Top k G m') : m = m' := by
  rcases h.mem with e | ⟨b, hb, e⟩
  · subst e
    rcases h'.mem with e' | ⟨b', hb', e'⟩
    · exact e'.symm
    · rw [← e', h.none_of hb']
  · rcases h'.mem with e' | ⟨b', hb', e'⟩
    · subst e'
      rw [← e, h'.none_of hb]
    · have h1 := h'.ub b hb
      have h2 := h.ub b' hb'
      rw [e] at h1
      rw [e'] at h2
      rw [← h2, ← pick_comm h.key h'.key, h1]
theorem pick_absorb {k : Int} {x y m : Option En} (hx : KeyAt k x) (hy : KeyAt k y) (hm : KeyAt k m) (h : pickE (pickE x y) m = m) : pickE x m = m ∧ pickE y m = m := by
  constructor
  · have e := h
    rw [pick_assoc hx hy hm] at e
    rw [← e, ← pick_assoc hx hx (pick_at hy hm), pick_self]
  · have e := h
    rw [pick_comm hx hy, pick_assoc hy hx hm] at e
    rw [← e, ← pick_assoc hy hy (pick_at hx hm), pick_self]
theorem fold_ris : ∀ (G : List (List En)) (A : List En), Ris A → AllRis G → Ris (G.foldl mergeE A)
  | [], A, hA, _ => hA
  | b :: G, A, hA, hG => fold_ris G (mergeE A b) (merge_ris hA (hG b (List.mem_cons_self ..))) (fun c hc => hG c (List.mem_cons_of_mem _ hc))
theorem fold_top (k : Int) : ∀ (G : List (List En)) (A : List En), Ris A → AllRis G → Top k (A :: G) (look (G.foldl mergeE A) k)
  | [], A, hA, _ => ⟨look_at _ _, fun b hb => by rw [List.mem_singleton.1 hb]; exact pick_self _, .inr ⟨A, List.mem_singleton.2 rfl, rfl⟩⟩
  | b :: G, A, hA, hG => by
    have hb := hG b (List.mem_cons_self ..)
    have ih := fold_top k G (mergeE A b) (merge_ris hA hb) (fun c hc => hG c (List.mem_cons_of_mem _ hc))
    have hu := ih.ub _ (List.mem_cons_self ..)
    rw [merge_look hA hb] at hu
    obtain ⟨u1, u2⟩ := pick_absorb (look_at A k) (look_at b k) ih.key hu
    refine ⟨ih.key, fun c hc => ?_, ?_⟩
    · rcases List.mem_cons.1 hc with rfl | hc
      · exact u1
      · rcases List.mem_cons.1 hc with rfl | hc
        · exact u2
        · exact ih.ub c (List.mem_cons_of_mem _ hc)
    · rcases ih.mem with e | ⟨c, hc, e⟩
      · exact .inl e
      · rcases List.mem_cons.1 hc with rfl | hc
        · rw [merge_look hA hb] at e
          rcases pick_or (look A k) (look b k) with q | q
          · exact .inr ⟨A, List.mem_cons_self .., q.symm.trans e⟩
          · exact .inr ⟨b, List.mem_cons_of_mem _ (List.mem_cons_self ..), q.symm.trans e⟩
        · exact .inr ⟨c, List.mem_cons_of_mem _ (List.mem_cons_of_mem _ hc), e⟩
theorem ris_nil : Ris [] := List.Pairwise.nil
theorem whole_ris {G : List (List En)} (h : AllRis G) : Ris (whole G) := fold_ris G [] ris_nil h
theorem whole_top {G : List (List En)} (h : AllRis G) (k : Int) : Top k G (look (whole G) k) := by
  have t := fold_top k G [] ris_nil h
  refine ⟨t.key, fun b hb => t.ub b (List.mem_cons_of_mem _ hb), ?_⟩
  rcases t.mem with e | ⟨b, hb, e⟩
  · exact .inl e
  · rcases List.mem_cons.1 hb with rfl | hb
    · exact .inl e.symm
    · exact .inr ⟨b, hb, e⟩
theorem whole_of {G : List (List En)} {W : List En} (h : AllRis G) (hW : Ris W) (t : ∀ k, Top k G (look W k)) : whole G = W :=
  ris_ext (whole_ris h) hW (fun k => (whole_top h k).unique (t k))
theorem whole_snoc (G : List (List En)) (b : List En) : whole (G ++ [b]) = mergeE (whole G) b := by
  unfold whole
  rw [List.foldl_append]
  rfl
theorem whole_one (b : List En) : whole [b] = b := mergeE_nil b
theorem merge_comm {A B : List En} (hA : Ris A) (hB : Ris B) : mergeE A B = mergeE B A := (merge_join A B hA hB).unique (merge_join B A hB hA).comm
theorem merge_of_le {A B : List En} (hA : Ris A) (hB : Ris B) (h : ∀ k, pickE (look A k) (look B k) = look B k) : mergeE A B = B :=
  (merge_join A B hA hB).unique ⟨hB, fun k => (h k).symm⟩
theorem merge_self {A : List En} (hA : Ris A) : mergeE A A = A := merge_of_le hA hA (fun k => pick_self _)
theorem merge_whole {G : List (List En)} (h : AllRis G) {b : List En} (hb : b ∈ G) : mergeE b (whole G) = whole G := merge_of_le (h b hb) (whole_ris h) (fun k => (whole_top h k).ub b hb)
/-- No more Keys, no longer. -/
theorem sub_len : ∀ (A B : List En), Ris A → Ris B → (∀ k, look B k = none → look A k = none) → A.length ≤ B.length
  | [], _, _, _, _ => Nat.zero_le _
  | a :: A, [], hA, _, h => by
    have := h a.key (look_nil _)
    rw [look_cons, if_pos rfl] at this
    cases this
  | a :: A, b :: B, hA, hB, h => by
    obtain ⟨a1, a2⟩ := ris_cons.1 hA
    obtain ⟨b1, b2⟩ := ris_cons.1 hB
    by_cases e : b.key = a.key
    · have := sub_len A B a2 b2 (fun k hk => by
        by_cases q : a.key = k
        · exact look_none_of (fun x hx e' => by have := a1 x hx; rw [e', q] at this; exact Int.lt_irrefl _ this)
        · have h2 := h k (by rw [look_cons, if_neg (by rw [e]; exact q)]; exact hk)
          rw [look_cons, if_neg q] at h2
          exact h2)
      simp only [List.length_cons]
      omega
    · by_cases l : b.key < a.key
      · have := sub_len (a :: A) B hA b2 (fun k hk => by
          by_cases q : b.key = k
          · refine look_none_of (fun x hx e' => ?_)
            rcases List.mem_cons.1 hx with rfl | hx
            · rw [e', q] at l; exact Int.lt_irrefl _ l
            · have := Int.lt_trans l (a1 x hx)
              rw [e', q] at this
              exact Int.lt_irrefl _ this
          · exact h k (by rw [look_cons, if_neg q]; exact hk))
        simp only [List.length_cons] at this ⊢
        omega
      · exfalso
        have := h a.key (look_none_of (fun x hx e' => by
          rcases List.mem_cons.1 hx with rfl | hx
          · exact e e'
          · have := b1 x hx; rw [e'] at this; exact l this))
        rw [look_cons, if_pos rfl] at this
        cases this
theorem len_whole {G : List (List En)} (h : AllRis G) {b : List En} (hb : b ∈ G) : b.length ≤ (whole G).length :=
  sub_len b _ (h b hb) (whole_ris h) (fun k hk => by have t := whole_top h k; rw [hk] at t; exact t.none_of hb)
theorem whole_mem {G : List (List En)} (h : AllRis G) {e : En} (he : e ∈ whole G) : ∃ b ∈ G, e ∈ b := by
  have hl := look_mem (whole_ris h) he
  rcases (whole_top h e.key).mem with q | ⟨b, hb, q⟩
  · rw [hl] at q; cases q
  · rw [hl] at q
    exact ⟨b, hb, (look_some q).1⟩
/-- One is told by another. -/
def at0 (G : List (List En)) (i : Nat) : List En := G.getD i []
theorem at0_mem {G : List (List En)} {i : Nat} (h : i < G.length) : at0 G i ∈ G := by
  unfold at0
  rw [List.getD_eq_getElem?_getD, List.getElem?_eq_getElem h]
  exact List.getElem_mem h
theorem at0_get {G : List (List En)} {i : Nat} (h : i < G.length) : at0 G i = G[i] := by
  unfold at0
  rw [List.getD_eq_getElem?_getD, List.getElem?_eq_getElem h]
  rfl
theorem at0_set {G : List (List En)} {i j : Nat} {x : List En} (h : i < G.length) : at0 (G.set i x) j = if i = j then x else at0 G j := by
  unfold at0
  rw [List.getD_eq_getElem?_getD, List.getD_eq_getElem?_getD, List.getElem?_set]
  by_cases e : i = j
  · subst e; simp [h]
  · simp [e]
def tell (G : List (List En)) (f t : Nat) : List (List En) := G.set t (mergeE (at0 G t) (at0 G f))
theorem tell_length (G : List (List En)) (f t : Nat) : (tell G f t).length = G.length := List.length_set ..
theorem tell_at {G : List (List En)} {f t i : Nat} (ht : t < G.length) : at0 (tell G f t) i = if t = i then mergeE (at0 G t) (at0 G f) else at0 G i := at0_set ht
theorem setAll_ris {G : List (List En)} {i : Nat} {x : List En} (h : AllRis G) (hx : Ris x) : AllRis (G.set i x) := by
  intro b hb
  rcases List.mem_or_eq_of_mem_set hb with q | q
  · exact h b q
  · rw [q]; exact hx
theorem tell_ris {G : List (List En)} {f t : Nat} (h : AllRis G) (hf : f < G.length) (ht : t < G.length) : AllRis (tell G f t) := setAll_ris h (merge_ris (h _ (at0_mem ht)) (h _ (at0_mem hf)))
/-- Told or not, together they know the same. -/
theorem tell_whole {G : List (List En)} {f t : Nat} (h : AllRis G) (hf : f < G.length) (ht : t < G.length) : whole (tell G f t) = whole G := by
  refine whole_of (tell_ris h hf ht) (whole_ris h) (fun k => ?_)
  have T := whole_top h k
  have rt := h _ (at0_mem ht)
  have rf := h _ (at0_mem hf)
  have ej := merge_look rt rf k
  have ut := T.ub _ (at0_mem ht)
  have uf := T.ub _ (at0_mem hf)
  refine ⟨T.key, fun b hb => ?_, ?_⟩
  · rcases List.mem_or_eq_of_mem_set hb with q | q
    · exact T.ub b q
    · rw [q, ej, pick_assoc (look_at _ k) (look_at _ k) T.key, uf, ut]
  · rcases T.mem with e | ⟨b, hb, e⟩
    · exact .inl e
    · obtain ⟨j, hj, rfl⟩ := List.mem_iff_getElem.1 hb
      by_cases q : t = j
      · subst q
        refine .inr ⟨mergeE (at0 G t) (at0 G f), ?_, ?_⟩
        · exact List.mem_iff_getElem.2 ⟨t, by rw [tell_length]; exact hj, by unfold tell; rw [List.getElem_set_self]⟩
        · rw [ej, at0_get hj, e, pick_comm T.key (look_at _ k)]
          exact uf
      · refine .inr ⟨G[j], ?_, e⟩
        exact List.mem_iff_getElem.2 ⟨j, by rw [tell_length]; exact hj, by unfold tell; rw [List.getElem_set_ne q]⟩
/-- From 0 to 1, from 1 to 2, and so on up to m. -/
def pass (G : List (List En)) (m : Nat) : List (List En) := (List.range m).foldl (fun G i => tell G i (i + 1)) G
theorem pass_succ (G : List (List En)) (m : Nat) : pass G (m + 1) = tell (pass G m) m (m + 1) := by
  unfold pass
  rw [List.range_succ, List.foldl_append]
  rfl
theorem pass_length (G : List (List En)) : ∀ m, (pass G m).length = G.length
  | 0 => rfl
  | m + 1 => by rw [pass_succ, tell_length, pass_length G m]
theorem pass_ris {G : List (List En)} (h : AllRis G) : ∀ m, m < G.length → AllRis (pass G m)
  | 0, _ => h
  | m + 1, hm => by rw [pass_succ]; exact tell_ris (pass_ris h m (by omega)) (by rw [pass_length]; omega) (by rw [pass_length]; exact hm)
theorem pass_whole {G : List (List En)} (h : AllRis G) : ∀ m, m < G.length → whole (pass G m) = whole G
  | 0, _ => rfl
  | m + 1, hm => by rw [pass_succ, tell_whole (pass_ris h m (by omega)) (by rw [pass_length]; omega) (by rw [pass_length]; exact hm), pass_whole h m (by omega)]
theorem take_ris {G : List (List En)} (h : AllRis G) (j : Nat) : AllRis (G.take j) := fun b hb => h b (List.mem_of_mem_take hb)
theorem take_whole {G : List (List En)} {j : Nat} (hj : j < G.length) : whole (G.take (j + 1)) = mergeE (whole (G.take j)) (at0 G j) := by
  rw [List.take_add_one, List.getElem?_eq_getElem hj, at0_get hj]
  exact whole_snoc _ _
theorem pass_at {G : List (List En)} (h : AllRis G) : ∀ m, m < G.length → ∀ j, at0 (pass G m) j = if j ≤ m then (if j < G.length then whole (G.take (j + 1)) else at0 G j) else at0 G j
  | 0, hm, j => by
    by_cases q : j ≤ 0
    · have : j = 0 := by omega
      subst this
      rw [if_pos (Nat.le_refl _), if_pos hm, take_whole hm, List.take_zero]
      exact (mergeE_nil _).symm
    · rw [if_neg q]
      rfl
  | m + 1, hm, j => by
    rw [pass_succ, tell_at (by rw [pass_length]; exact hm)]
    by_cases q : m + 1 = j
    · subst q
      rw [if_pos rfl, if_pos (Nat.le_refl _), if_pos hm, pass_at h m (by omega) (m + 1), if_neg (by omega), pass_at h m (by omega) m, if_pos (Nat.le_refl _), if_pos (by omega), take_whole hm]
      exact merge_comm (h _ (at0_mem hm)) (whole_ris (take_ris h _))
    · rw [if_neg q, pass_at h m (by omega) j]
      by_cases q2 : j ≤ m
      · rw [if_pos q2, if_pos (show j < G.length by omega), if_pos (show j ≤ m + 1 by omega)]
      · rw [if_neg q2, if_neg (show ¬ j ≤ m + 1 by omega)]
/-- Once around, and once more up to the last one. -/
def round1 (G : List (List En)) : List (List En) := if 1 < G.length then tell (pass G (G.length - 1)) (G.length - 1) 0 else pass G (G.length - 1)
def around (G : List (List En)) : List (List En) := pass (round1 G) (G.length - 1)
theorem round1_length (G : List (List En)) : (round1 G).length = G.length := by
  unfold round1
  split
  · rw [tell_length, pass_length]
  · rw [pass_length]
theorem around_length (G : List (List En)) : (around G).length = G.length := by
  unfold around
  rw [pass_length, round1_length]
theorem round1_ris {G : List (List En)} (h : AllRis G) (hn : 0 < G.length) : AllRis (round1 G) := by
  unfold round1
  split
  · exact tell_ris (pass_ris h _ (by omega)) (by rw [pass_length]; omega) (by rw [pass_length]; omega)
  · exact pass_ris h _ (by omega)
theorem round1_whole {G : List (List En)} (h : AllRis G) (hn : 0 < G.length) : whole (round1 G) = whole G := by
  unfold round1
  split
  · rw [tell_whole (pass_ris h _ (by omega)) (by rw [pass_length]; omega) (by rw [pass_length]; omega), pass_whole h _ (by omega)]
  · exact pass_whole h _ (by omega)
theorem round1_first {G : List (List En)} (h : AllRis G) (hn : 0 < G.length) : at0 (round1 G) 0 = whole G := by
  have et : G.take (G.length - 1 + 1) = G := by rw [show G.length - 1 + 1 = G.length by omega, List.take_length]
  unfold round1
  split
  · rename_i h1
    rw [tell_at (by rw [pass_length]; omega), if_pos rfl, pass_at h _ (by omega), if_pos (Nat.zero_le _), if_pos hn, pass_at h _ (by omega), if_pos (Nat.le_refl _), if_pos (by omega), et, take_whole hn, List.take_zero]
    show mergeE (mergeE [] (at0 G 0)) _ = _
    rw [mergeE_nil]
    exact merge_whole h (at0_mem hn)
  · rename_i h1
    have e1 : G.length = 1 := by omega
    rw [pass_at h _ (by omega), if_pos (Nat.zero_le _), if_pos hn]
    rw [show G.length - 1 = 0 by omega] at et
    rw [et]
/-- In the end all know what all knew together. -/
theorem around_at {G : List (List En)} (h : AllRis G) {j : Nat} (hj : j < G.length) : at0 (around G) j = whole G := by
  have hn : 0 < G.length := by omega
  have h1 := round1_ris h hn
  unfold around
  rw [pass_at h1 _ (by rw [round1_length]; omega), if_pos (by omega), if_pos (by rw [round1_length]; exact hj)]
  refine whole_of (take_ris h1 _) (whole_ris h) (fun k => ?_)
  have T := whole_top h1 k
  rw [round1_whole h hn] at T
  refine ⟨T.key, fun b hb => T.ub b (List.mem_of_mem_take hb), .inr ⟨at0 (round1 G) 0, ?_, by rw [round1_first h hn]⟩⟩
  rw [at0_get (by rw [round1_length]; exact hn)]
  exact List.mem_iff_getElem.2 ⟨0, by rw [List.length_take, round1_length]; omega, List.getElem_take⟩
theorem around_ris {G : List (List En)} (h : AllRis G) (hn : 0 < G.length) : AllRis (around G) := pass_ris (round1_ris h hn) _ (by rw [round1_length]; omega)
theorem around_eq {G : List (List En)} (h : AllRis G) : around G = List.replicate G.length (whole G) := by
  refine List.ext_getElem (by rw [around_length, List.length_replicate]) (fun j h1 h2 => ?_)
  rw [List.getElem_replicate, ← at0_get h1]
  rw [around_length] at h1
  exact around_at h h1
theorem rep_whole {n : Nat} {W : List En} (hW : Ris W) (hn : 0 < n) : whole (List.replicate n W) = W := by
  refine whole_of (fun b hb => by rw [(List.mem_replicate.1 hb).2]; exact hW) hW (fun k => ⟨look_at _ _, fun b hb => by rw [(List.mem_replicate.1 hb).2]; exact pick_self _, .inr ⟨W, List.mem_replicate.2 ⟨by omega, rfl⟩, rfl⟩⟩)
theorem around_whole {G : List (List En)} (h : AllRis G) (hn : 0 < G.length) : whole (around G) = whole G := by
  rw [around_eq h]
  exact rep_whole (whole_ris h) hn
theorem around_again {G : List (List En)} (h : AllRis G) (hn : 0 < G.length) : around (around G) = around G := by
  rw [around_eq (around_ris h hn), around_whole h hn, around_length, around_eq h]
end Go.Proofs.YtceddedlfdgbhaaGreatDoor.Mk
