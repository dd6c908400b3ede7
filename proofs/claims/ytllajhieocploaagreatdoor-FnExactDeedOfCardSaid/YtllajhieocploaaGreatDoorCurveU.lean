/-
  What lies in memory while a point is doubled by a closure; what that closure answers and turns.
-/
import Derived.Test.YtllajhieocploaaGreatDoorCurveI
import Derived.Deep.Cut
import Derived.Deep.CutRange
namespace Go.Proofs.YtllajhieocploaaGreatDoor.Cv
open Go.ChangeShapes Go.WideShapes Go.ChangeAt Go.RowKit
open Cu
/-- Block b holds the two numbers of p, and may be written. -/
structure Two (w : World) (b : Nat) (p : Nat × Nat) : Prop where
  lt : b < w.heap.size
  c0 : w.cell? ⟨b, 0, none⟩ = some (.int .i64 p.1)
  c1 : w.cell? ⟨b, 1, none⟩ = some (.int .i64 p.2)
  f0 : w.frozen? ⟨b, 0, none⟩ = false
  f1 : w.frozen? ⟨b, 1, none⟩ = false
theorem Two.kept {B : Nat} {w w' : World} {b : Nat} {p : Nat × Nat} (h : Two w b p) (k : Below B w w') (hb : b < B) : Two w' b p :=
  ⟨Nat.lt_of_lt_of_le h.lt k.size, by rw [k.cell (by simpa using hb)]; exact h.c0, by rw [k.cell (by simpa using hb)]; exact h.c1, by rw [k.frozen (by simpa using hb)]; exact h.f0, by rw [k.frozen (by simpa using hb)]; exact h.f1⟩
theorem Two.only {c : Nat} {w w' : World} {b : Nat} {p : Nat × Nat} (h : Two w b p) (k : Only c w w') (hb : b ≠ c) : Two w' b p :=
  ⟨Nat.lt_of_lt_of_le h.lt k.size, by rw [k.cell (by simpa using h.lt) (by simpa using hb)]; exact h.c0, by rw [k.cell (by simpa using h.lt) (by simpa using hb)]; exact h.c1, by rw [k.frozen (by simpa using h.lt) (by simpa using hb)]; exact h.f0, by rw [k.frozen (by simpa using h.lt) (by simpa using hb)]; exact h.f1⟩
theorem Two.put {w : World} {b : Nat} {p q : Nat × Nat} (h : Two w b p) : Two ((w.setCell ⟨b, 0, none⟩ (.int .i64 q.1)).setCell ⟨b, 1, none⟩ (.int .i64 q.2)) b q := by
  refine ⟨by simpa [World.setCell] using h.lt, ?_, ?_, ?_, ?_⟩
  · rw [cell_set_other (by decide)]; exact World.cell?_setCell_same' _ _ _ (by rw [h.c0]; rfl)
  · exact World.cell?_setCell_same' _ _ _ (by rw [cell_set_other (by decide), h.c1]; rfl)
  · simpa using h.f0
  · simpa using h.f1
theorem Two.alloc {w : World} {b : Nat} {p : Nat × Nat} (h : Two w b p) (o : Obj) : Two (w.alloc o) b p :=
  h.kept ((Below.refl w.heap.size w).alloc (Nat.le_refl _) o) h.lt
theorem Two.far {w : World} {b c i : Nat} {v : Value} {p : Nat × Nat} (h : Two w b p) (hc : ¬ b = c) : Two (w.setCell ⟨c, i, none⟩ v) b p :=
  ⟨by simpa [World.setCell] using h.lt, by rw [cell_set_far (fun e => hc e.symm)]; exact h.c0, by rw [cell_set_far (fun e => hc e.symm)]; exact h.c1, by simpa using h.f0, by simpa using h.f1⟩
theorem Two.new (w : World) (x y : Nat) (T : TypeId) : Two (w.alloc (.cells #[.int .i64 x, .int .i64 y] T)) w.heap.size (x, y) :=
  ⟨by simp, by simp, by simp, by simp, by simp⟩
theorem Two.newAt {w : World} {x y : Nat} {T : TypeId} {k : Nat} (h : w.heap.size = k) : Two (w.alloc (.cells #[.int .i64 x, .int .i64 y] T)) k (x, y) := by
  subst h; exact Two.new w x y T
theorem Two.drew {w : World} {b : Nat} {p : Nat × Nat} (h : Two w b p) : Two w.drew b p := ⟨h.lt, h.c0, h.c1, h.f0, h.f1⟩
theorem ret_via {fn : Func} {tm : Array Value} {wf : World} {b : Nat} {p : Nat × Nat} {v : Value} (t : Two wf b p) (h : ∀ w2, Two w2 b p → (results fn tm).run Tryz.prog w2 = .ok v w2) : (results fn tm).run Tryz.prog wf = .ok v wf := h wf t
/-- What lies in memory as the doubling begins. -/
structure Start (w wx : World) (p : Nat × Nat) (cb tb : Nat) : Prop where
  a : Two wx cb p
  r : Two wx tb (0, 1)
  res : Two wx (w.heap.size + 1) (0, 0)
  non : Two wx (w.heap.size + 1 + 1) (0, 1)
  ca : w.heap.size + 1 + 1 < cb
  cr : w.heap.size + 1 + 1 < tb
  ne : ¬ cb = tb
  old : Below w.heap.size w wx
theorem start1 {w : World} {a b : Nat} {T1 T2 T3 T4 T5 : TypeId} : Start w (((((w.alloc (.cells #[.int .i64 a, .int .i64 b] T1)).alloc (.cells #[.int .i64 0, .int .i64 0] T2)).alloc (.cells #[.int .i64 0, .int .i64 1] T3)).alloc (.cells #[.int .i64 a, .int .i64 b] T4)).alloc (.cells #[.int .i64 0, .int .i64 1] T5)) (a, b) (w.heap.size + 1 + 1 + 1) (w.heap.size + 1 + 1 + 1 + 1) :=
  ⟨(Two.newAt (by simp)).alloc _, Two.newAt (x := 0) (y := 1) (by simp), (((Two.newAt (x := 0) (y := 0) (by simp)).alloc _).alloc _).alloc _, ((Two.newAt (x := 0) (y := 1) (by simp)).alloc _).alloc _, by omega, by omega, by omega,
   (((((Below.refl _ _).alloc (Nat.le_refl _) _).alloc (by simp) _).alloc (by simp; omega) _).alloc (by simp; omega) _).alloc (by simp; omega) _⟩
theorem start2 {w : World} {a b : Nat} {T1 T2 T3 T4 T5 : TypeId} : Start w (((((w.alloc (.cells #[.int .i64 a, .int .i64 b] T1)).alloc (.cells #[.int .i64 0, .int .i64 0] T2)).alloc (.cells #[.int .i64 0, .int .i64 1] T3)).alloc (.cells #[.int .i64 0, .int .i64 1] T4)).alloc (.cells #[.int .i64 a, .int .i64 b] T5)) (a, b) (w.heap.size + 1 + 1 + 1 + 1) (w.heap.size + 1 + 1 + 1) :=
  ⟨Two.newAt (by simp), (Two.newAt (x := 0) (y := 1) (by simp)).alloc _, (((Two.newAt (x := 0) (y := 0) (by simp)).alloc _).alloc _).alloc _, ((Two.newAt (x := 0) (y := 1) (by simp)).alloc _).alloc _, by omega, by omega, by omega,
   (((((Below.refl _ _).alloc (Nat.le_refl _) _).alloc (by simp) _).alloc (by simp; omega) _).alloc (by simp; omega) _).alloc (by simp; omega) _⟩
theorem Start.drew {w wx : World} {p : Nat × Nat} {cb tb : Nat} (h : Start w wx p cb tb) : Start w wx.drew p cb tb :=
  ⟨h.a.drew, h.r.drew, h.res.drew, h.non.drew, h.ca, h.cr, h.ne, h.old.drew⟩
/-- What lies in memory round by round: m is left, d is next, r is the sum so far. -/
structure Lp (w wx : World) (p : Nat × Nat) (n cb tb m : Nat) (d r : Nat × Nat) : Prop where
  a : Two wx cb d
  su : Two wx tb r
  res : Two wx (w.heap.size + 1) (0, 0)
  non : Two wx (w.heap.size + 1 + 1) (0, 1)
  old : Below w.heap.size w wx
  okd : okN d = true
  okr : okN r = true
  eq : adN r (ns d m) = ns p n
set_option maxHeartbeats 2000000 in
theorem twice_any (c : Nat) (p : Nat × Nat) (w : World) (h : Two w c p) (hp : El p) :
    Calls Tryz.prog 161 #[.pointer (some ⟨c, 0, none⟩)] w fun e w' => e = .returned (.agg #[.int .i64 p.1, .int .i64 p.2]) ∧ Two w' c (adN p p) ∧ Only c w w' := by
  obtain ⟨x, y⟩ := p
  have HT : Hid (Two w c (x, y)) := h
  have HE : Hid (El (x, y)) := hp
  obtain ⟨lt, c0, c1, f0, f1⟩ := h
  simp only at c0 c1
  clear hp
  go_enter Tryz.func161, Tryz.ntmps161
  go_wp2_with (fail)
  refine (plus_any x y x y _ HE.out.1 HE.out.2 HE.out.1 HE.out.2).mono ?_
  rintro e w1 ⟨rfl, hb⟩
  obtain ⟨hc, hf⟩ := bcell hb
  have hz : w.heap.size + 1 < w1.heap.size := by have := hb.size; simp at this; omega
  have hz1 : c < w.heap.size + 1 + 1 := by omega
  have hz2 : ¬ c = w.heap.size := by omega
  have hz3 : ¬ c = w.heap.size + 1 := by omega
  have hz4 : ¬ w.heap.size = c := by omega
  have hz5 : ¬ w.heap.size + 1 = c := by omega
  go_wp2
  have t1 : Two w1 c (x, y) := ((HT.out.alloc _).alloc _).kept hb (by simp; omega)
  have t2 : Two w1 w.heap.size (0, 0) := ((Two.newAt (x := 0) (y := 0) rfl).alloc _).kept hb (by simp; omega)
  have HT2 := Hid.mk' t2
  have HT1 := Hid.mk' t1
  clear t1 t2
  refine bodyPost_ret (v := .agg #[.int .i64 x, .int .i64 y]) ?_ rfl ⟨rfl, ?_, ?_⟩
  · have t3 := ((HT2.out.far (i := 0) (v := .int .i64 (adN (x, y) (x, y)).1) hz4).far (i := 1) (v := .int .i64 (adN (x, y) (x, y)).2) hz4).put (q := (x, y))
    dsimp only at t3
    refine ret_via t3 (fun w2 k => ?_)
    have k0 := k.c0
    have k1 := k.c1
    dsimp only at k0 k1
    clear t3 k hc hf hb HT2 HT1 HT HE c0 c1 f0 f1
    simp [results, Tryz.results161, go_sem, k0, k1]
  · have t3 := ((HT1.out.put (q := adN (x, y) (x, y))).far (i := 0) (v := .int .i64 x) hz2).far (i := 1) (v := .int .i64 y) hz2
    exact t3
  · have o1 := (((Only.refl c w).alloc (.cells #[.int .i64 0, .int .i64 0] _)).alloc (.cells #[.int .i64 x, .int .i64 y] _)).trans (Only.of_below hb)
    exact (((o1.setCell _ _).setCell _ _).setNew (by simp) _).setNew (by simp) _
end Go.Proofs.YtllajhieocploaaGreatDoor.Cv
