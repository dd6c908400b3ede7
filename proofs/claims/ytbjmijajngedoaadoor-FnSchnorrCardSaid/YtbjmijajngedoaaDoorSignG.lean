/-
  DrawValid: some Point, some short text, some Sig; it turns nothing that was.
-/
import Derived.Test.YtbjmijajngedoaaDoorSignF
import Derived.Test.YtbjmijajngedoaaDoorSignU
import Derived.Deep.Cut
import Derived.Deep.CutRange
namespace Go.Proofs.YtbjmijajngedoaaDoor.Sg
open Go.ChangeShapes Go.WideShapes Go.ChangeAt Go.RowKit
open Dr Cv Cu
/-- Block b holds the two numbers x, y, and may be written. -/
structure Twf (w : World) (b : Nat) (x y : Int) : Prop where
  lt : b < w.heap.size
  c0 : w.cell? ⟨b, 0, none⟩ = some (.int .i64 x)
  c1 : w.cell? ⟨b, 1, none⟩ = some (.int .i64 y)
  f0 : w.frozen? ⟨b, 0, none⟩ = false
  f1 : w.frozen? ⟨b, 1, none⟩ = false
theorem Twf.next {w w' : World} {b : Nat} {x y : Int} (h : Twf w b x y) (k : Below w.heap.size w w') : Twf w' b x y :=
  ⟨Nat.lt_of_lt_of_le h.lt k.size, by rw [k.cell (by simpa using h.lt)]; exact h.c0, by rw [k.cell (by simpa using h.lt)]; exact h.c1, by rw [k.frozen (by simpa using h.lt)]; exact h.f0, by rw [k.frozen (by simpa using h.lt)]; exact h.f1⟩
theorem Twf.old {w : World} {o : Obj} {b : Nat} {x y : Int} (h : Twf w b x y) : Twf (w.alloc o) b x y := h.next ((Below.refl w.heap.size w).alloc (Nat.le_refl _) o)
theorem Twf.newAt {w : World} {x y : Int} {T : TypeId} {k : Nat} (h : w.heap.size = k) : Twf (w.alloc (.cells #[.int .i64 x, .int .i64 y] T)) k x y := by
  subst h; exact ⟨by simp, by simp, by simp, by simp, by simp⟩
theorem Twf.only {c : Nat} {w w' : World} {b : Nat} {x y : Int} (h : Twf w b x y) (k : Only c w w') (hb : b ≠ c) : Twf w' b x y :=
  ⟨Nat.lt_of_lt_of_le h.lt k.size, by rw [k.cell (by simpa using h.lt) (by simpa using hb)]; exact h.c0, by rw [k.cell (by simpa using h.lt) (by simpa using hb)]; exact h.c1, by rw [k.frozen (by simpa using h.lt) (by simpa using hb)]; exact h.f0, by rw [k.frozen (by simpa using h.lt) (by simpa using hb)]; exact h.f1⟩
theorem Twf.put {w : World} {b : Nat} {x y x' y' : Int} (h : Twf w b x y) : Twf ((w.setCell ⟨b, 0, none⟩ (.int .i64 x')).setCell ⟨b, 1, none⟩ (.int .i64 y')) b x' y' := by
  refine ⟨by simpa [World.setCell] using h.lt, ?_, ?_, ?_, ?_⟩
  · rw [cell_set_other (by decide)]; exact World.cell?_setCell_same' _ _ _ (by rw [h.c0]; rfl)
  · exact World.cell?_setCell_same' _ _ _ (by rw [cell_set_other (by decide), h.c1]; rfl)
  · simpa using h.f0
  · simpa using h.f1
theorem Twf.far {w : World} {b c i : Nat} {v : Value} {x y : Int} (h : Twf w b x y) (hc : ¬ b = c) : Twf (w.setCell ⟨c, i, none⟩ v) b x y :=
  ⟨by simpa [World.setCell] using h.lt, by rw [cell_set_far (fun e => hc e.symm)]; exact h.c0, by rw [cell_set_far (fun e => hc e.symm)]; exact h.c1, by simpa using h.f0, by simpa using h.f1⟩
theorem Tri.only {c : Nat} {w w' : World} {b : Nat} {x y z : Int} (h : Tri w b x y z) (k : Only c w w') (hb : b ≠ c) : Tri w' b x y z :=
  ⟨Nat.lt_of_lt_of_le h.lt k.size, by rw [k.cell (by simpa using h.lt) (by simpa using hb)]; exact h.c0, by rw [k.cell (by simpa using h.lt) (by simpa using hb)]; exact h.c1, by rw [k.cell (by simpa using h.lt) (by simpa using hb)]; exact h.c2, by rw [k.frozen (by simpa using h.lt) (by simpa using hb)]; exact h.f0, by rw [k.frozen (by simpa using h.lt) (by simpa using hb)]; exact h.f1, by rw [k.frozen (by simpa using h.lt) (by simpa using hb)]; exact h.f2⟩
theorem Tri.far {w : World} {b c i : Nat} {v : Value} {x y z : Int} (h : Tri w b x y z) (hc : ¬ b = c) : Tri (w.setCell ⟨c, i, none⟩ v) b x y z :=
  ⟨by simpa [World.setCell] using h.lt, by rw [cell_set_far (fun e => hc e.symm)]; exact h.c0, by rw [cell_set_far (fun e => hc e.symm)]; exact h.c1, by rw [cell_set_far (fun e => hc e.symm)]; exact h.c2, by simpa using h.f0, by simpa using h.f1, by simpa using h.f2⟩
theorem Tri.put2 {w : World} {b : Nat} {x y z z' : Int} (h : Tri w b x y z) : Tri (w.setCell ⟨b, 2, none⟩ (.int .i64 z')) b x y z' :=
  ⟨by simpa [World.setCell] using h.lt, by rw [cell_set_other (by decide)]; exact h.c0, by rw [cell_set_other (by decide)]; exact h.c1, World.cell?_setCell_same' _ _ _ (by rw [h.c2]; rfl), by simpa using h.f0, by simpa using h.f1, by simpa using h.f2⟩
theorem Tri.put01 {w : World} {b : Nat} {x y z x' y' : Int} (h : Tri w b x y z) : Tri ((w.setCell ⟨b, 0, none⟩ (.int .i64 x')).setCell ⟨b, 1, none⟩ (.int .i64 y')) b x' y' z :=
  ⟨by simpa [World.setCell] using h.lt, by rw [cell_set_other (by decide)]; exact World.cell?_setCell_same' _ _ _ (by rw [h.c0]; rfl), World.cell?_setCell_same' _ _ _ (by rw [cell_set_other (by decide), h.c1]; rfl), by rw [cell_set_other (by decide), cell_set_other (by decide)]; exact h.c2, by simpa using h.f0, by simpa using h.f1, by simpa using h.f2⟩
/-- What lies in memory: the answers' two blocks, the key, the Sig. -/
structure Dv (w wx : World) (b8 b9 : Nat) (k1 k2 r1 r2 t : Int) : Prop where
  p : Twf wx w.heap.size 0 0
  q : Tri wx (w.heap.size + 1) 0 0 0
  k : Twf wx b8 k1 k2
  r : Tri wx b9 r1 r2 t
  old : Below w.heap.size w wx
theorem Dv.only {w wx wy : World} {b8 b9 c : Nat} {k1 k2 r1 r2 t : Int} (h : Dv w wx b8 b9 k1 k2 r1 r2 t) (o : Only c wx wy) (hc : w.heap.size + 1 < c) (h8 : ¬ b8 = c) (h9 : ¬ b9 = c) : Dv w wy b8 b9 k1 k2 r1 r2 t :=
  ⟨h.p.only o (by omega), h.q.only o (by omega), h.k.only o h8, h.r.only o h9, h.old.trans (o.below (B := w.heap.size) (by omega) h.old.size)⟩
theorem Dv.alloc {w wx : World} {b8 b9 : Nat} {k1 k2 r1 r2 t : Int} (h : Dv w wx b8 b9 k1 k2 r1 r2 t) (o : Obj) : Dv w (wx.alloc o) b8 b9 k1 k2 r1 r2 t :=
  ⟨h.p.old, h.q.old, h.k.old, h.r.old, below_old h.old⟩
theorem Dv.drew {w wx : World} {b8 b9 : Nat} {k1 k2 r1 r2 t : Int} (h : Dv w wx b8 b9 k1 k2 r1 r2 t) : Dv w wx.drew b8 b9 k1 k2 r1 r2 t :=
  ⟨⟨h.p.lt, h.p.c0, h.p.c1, h.p.f0, h.p.f1⟩, h.q.drew, ⟨h.k.lt, h.k.c0, h.k.c1, h.k.f0, h.k.f1⟩, h.r.drew, Below.drew h.old⟩
theorem Dv.setT {w wx : World} {b8 b9 : Nat} {k1 k2 r1 r2 t t' : Int} (h : Dv w wx b8 b9 k1 k2 r1 r2 t) (h9 : w.heap.size + 1 < b9) (h89 : ¬ b8 = b9) : Dv w (wx.setCell ⟨b9, 2, none⟩ (.int .i64 t')) b8 b9 k1 k2 r1 r2 t' :=
  ⟨h.p.far (by omega), h.q.far (by omega), h.k.far h89, h.r.put2, h.old.setCell (by simp; omega) _⟩
theorem Dv.setR {w wx : World} {b8 b9 : Nat} {k1 k2 r1 r2 t x y : Int} (h : Dv w wx b8 b9 k1 k2 r1 r2 t) (h9 : w.heap.size + 1 < b9) (h89 : ¬ b8 = b9) : Dv w ((wx.setCell ⟨b9, 0, none⟩ (.int .i64 x)).setCell ⟨b9, 1, none⟩ (.int .i64 y)) b8 b9 k1 k2 x y t :=
  ⟨(h.p.far (by omega)).far (by omega), (h.q.far (by omega)).far (by omega), (h.k.far h89).far h89, h.r.put01, (h.old.setCell (by simp; omega) _).setCell (by simp; omega) _⟩
theorem Dv.setK {w wx : World} {b8 b9 : Nat} {k1 k2 r1 r2 t x y : Int} (h : Dv w wx b8 b9 k1 k2 r1 r2 t) (h8 : w.heap.size + 1 < b8) (h89 : ¬ b8 = b9) : Dv w ((wx.setCell ⟨b8, 0, none⟩ (.int .i64 x)).setCell ⟨b8, 1, none⟩ (.int .i64 y)) b8 b9 x y r1 r2 t :=
  ⟨(h.p.far (by omega)).far (by omega), (h.q.far (by omega)).far (by omega), h.k.put, (h.r.far (fun e => h89 e.symm)).far (fun e => h89 e.symm), (h.old.setCell (by simp; omega) _).setCell (by simp; omega) _⟩
theorem Twf.drew {w : World} {b : Nat} {x y : Int} (h : Twf w b x y) : Twf w.drew b x y := ⟨h.lt, h.c0, h.c1, h.f0, h.f1⟩
theorem Dv.fin {w wx : World} {b8 b9 : Nat} {k1 k2 r1 r2 t : Int} (h : Dv w wx b8 b9 k1 k2 r1 r2 t) :
    Twf (((((wx.setCell ⟨w.heap.size, 0, none⟩ (.int .i64 k1)).setCell ⟨w.heap.size, 1, none⟩ (.int .i64 k2)).setCell ⟨w.heap.size + 1, 0, none⟩ (.int .i64 r1)).setCell ⟨w.heap.size + 1, 1, none⟩ (.int .i64 r2)).setCell ⟨w.heap.size + 1, 2, none⟩ (.int .i64 t)).drew w.heap.size k1 k2 ∧
    Tri (((((wx.setCell ⟨w.heap.size, 0, none⟩ (.int .i64 k1)).setCell ⟨w.heap.size, 1, none⟩ (.int .i64 k2)).setCell ⟨w.heap.size + 1, 0, none⟩ (.int .i64 r1)).setCell ⟨w.heap.size + 1, 1, none⟩ (.int .i64 r2)).setCell ⟨w.heap.size + 1, 2, none⟩ (.int .i64 t)).drew (w.heap.size + 1) r1 r2 t ∧
    Below w.heap.size w (((((wx.setCell ⟨w.heap.size, 0, none⟩ (.int .i64 k1)).setCell ⟨w.heap.size, 1, none⟩ (.int .i64 k2)).setCell ⟨w.heap.size + 1, 0, none⟩ (.int .i64 r1)).setCell ⟨w.heap.size + 1, 1, none⟩ (.int .i64 r2)).setCell ⟨w.heap.size + 1, 2, none⟩ (.int .i64 t)).drew := by
  have a := ((h.p.put (x' := k1) (y' := k2)).far (c := w.heap.size + 1) (i := 0) (v := .int .i64 r1) (by omega)).far (c := w.heap.size + 1) (i := 1) (v := .int .i64 r2) (by omega) |>.far (c := w.heap.size + 1) (i := 2) (v := .int .i64 t) (by omega)
  have b := ((h.q.far (c := w.heap.size) (i := 0) (v := .int .i64 k1) (by omega)).far (c := w.heap.size) (i := 1) (v := .int .i64 k2) (by omega)).put (x' := r1) (y' := r2) (z' := t)
  exact ⟨a.drew, b.drew, Below.drew (((((h.old.setCell (by simp) _).setCell (by simp) _).setCell (by simp) _).setCell (by simp) _).setCell (by simp) _)⟩
theorem ret_via4 {fn : Func} {tm : Array Value} {wf : World} {b c : Nat} {x y p q r : Int} {v : Value} (t : Twf wf b x y) (s : Tri wf c p q r) (h : ∀ w2, Twf w2 b x y → Tri w2 c p q r → (results fn tm).run Tryd.prog w2 = .ok v w2) : (results fn tm).run Tryd.prog wf = .ok v wf := h wf t s
theorem dv_contracts (n : Nat) (s : ByteArray) (hn : n < 2548) (hs : s.size ≤ 6) : ∃ (k1 k2 r1 r2 : Int) (t : Nat), t < 2549 ∧
    (∀ w, Calls Tryd.prog 33 #[.int .i64 (1 + (n : Int)), .agg #[.int .i64 2791, .int .i64 6375]] w fun e w' => e = .returned (.agg #[.int .i64 k1, .int .i64 k2]) ∧ Below w.heap.size w w') ∧
    (∀ w, Calls Tryd.prog 35 #[.int .i64 (1 + (n : Int)), .string s] w fun e w' => e = .returned (.agg #[.int .i64 r1, .int .i64 r2, .int .i64 t]) ∧ Below w.heap.size w w') := by
  have e : ((1 + n : Nat) : Int) = 1 + (n : Int) := by omega
  have ck := fun w => l2Times_any 2791 6375 (1 + n) w ok_base (by omega)
  have cg := fun w => l3Signed_any (1 + n) s w (by omega) (by omega)
  have ht := sgT_lt (1 + n) s
  generalize ns (2791, 6375) (1 + n) = K at ck
  generalize sgR (1 + n) s = R at cg
  generalize sgT (1 + n) s = T at cg ht
  rw [e] at ck cg
  exact ⟨K.1, K.2, R.1, R.2, T, ht, ck, cg⟩
set_option maxRecDepth 100000 in
set_option maxHeartbeats 8000000 in
theorem DrawValid_any (a : Option Addr) (len cap : Nat) (w : World) (hc : Dr.Code w.heap.size w a len) (hl : len ≤ 4096) :
    Calls Tryd.prog 9 #[.slice a len cap] w fun e w' => ∃ (x y : Int) (s : ByteArray) (p q t : Int), s.size ≤ 7 ∧ e = .returned (.tuple #[.agg #[.int .i64 x, .int .i64 y], .string s, .agg #[.int .i64 p, .int .i64 q, .int .i64 t]]) ∧ Below w.heap.size w w' := by
  have HC := hidIt hc
  clear hc
  go_enter Tryd.func9, Tryd.ntmps9
  go_wp2_with (fail)
  refine (l1New_any _ a len cap _ (Nat.le_refl _) (code_old (code_old HC.out)) hl).mono ?_
  rintro e w1 ⟨c, rfl, hC1, hb1⟩
  have hcs : w.heap.size + 1 < c := by have := hC1.here; simp at this; omega
  have P1 := hidIt ((Twf.newAt (w := w) (x := 0) (y := 0) rfl).old.next hb1)
  have Q1 := hidIt ((Tri.newAt (x := 0) (y := 0) (z := 0) (k := w.heap.size + 1) (by simp)).next hb1)
  have C1 := hidIt hC1
  have B1 := hidIt (below_next (below_old (below_old (Below.refl w.heap.size w))) hb1)
  clear hC1 hb1
  go_wp2_with (fail)
  refine (l1Below_any _ c a len cap _ _ (by decide) C1.out).mono ?_
  rintro e w2 ⟨x, x0, x1, rfl, hC2, hO2⟩
  obtain ⟨xn, rfl⟩ := Int.eq_ofNat_of_zero_le x0
  have hx1 : (xn : Int) < 2548 := x1
  have P2 := hidIt (P1.out.only hO2 (by omega))
  have Q2 := hidIt (Q1.out.only hO2 (by omega))
  have C2 := hidIt hC2
  have B2 := hidIt (B1.out.trans (hO2.below (B := w.heap.size) (by omega) B1.out.size))
  clear hC2 hO2 P1 Q1 C1 B1
  go_wp2_with (fail)
  refine (l3DrawText_any _ c a len cap _ C2.out).mono ?_
  rintro e w3 ⟨s, hs, rfl, hC3, hO3⟩
  have P3 := hidIt (P2.out.only hO3 (by omega))
  have Q3 := hidIt (Q2.out.only hO3 (by omega))
  have C3 := hidIt hC3
  have B3 := hidIt (B2.out.trans (hO3.below (B := w.heap.size) (by omega) B2.out.size))
  clear hC3 hO3 P2 Q2 C2 B2
  obtain ⟨k1, k2, r1, r2, tn, ht, ck, cg⟩ := dv_contracts xn s (by omega) hs
  have CK := hidIt ck
  have CG := hidIt cg
  have t0 : (0 : Int) ≤ (tn : Int) := by omega
  have t1 : (tn : Int) < 2549 := by omega
  clear ck cg
  go_wp2_with (fail)
  refine (spec_Base _).mono ?_
  rintro e w4 ⟨rfl, hb4⟩
  have P4 := hidIt (P3.out.next hb4)
  have Q4 := hidIt (Q3.out.next hb4)
  have C4 := hidIt (C3.out.kept (hb4.mono (B' := c + 1) (by have := C3.out.lt; omega)))
  have B4 := hidIt (below_next B3.out hb4)
  clear hb4 P3 Q3 C3 B3
  go_wp2_with (fail)
  refine (CK.out _).mono ?_
  rintro e w5 ⟨rfl, hb5⟩
  have P5 := hidIt (P4.out.next hb5)
  have Q5 := hidIt (Q4.out.next hb5)
  have C5 := hidIt (C4.out.kept (hb5.mono (B' := c + 1) (by have := C4.out.lt; omega)))
  have B5 := hidIt (below_next B4.out hb5)
  clear hb5 P4 Q4 C4 B4
  have z5 := C5.out.lt
  go_wp2_with (fail)
  refine (CG.out _).mono ?_
  rintro e w6 ⟨rfl, hb6⟩
  have P6 := hidIt (P5.out.old.next hb6)
  have Q6 := hidIt (Q5.out.old.next hb6)
  have K6 := hidIt ((Twf.newAt (w := w5) (x := k1) (y := k2) rfl).next hb6)
  have C6 := hidIt ((C5.out.kept ((Below.refl (c + 1) w5).alloc (by omega) _)).kept (hb6.mono (B' := c + 1) (by simp; omega)))
  have B6 := hidIt (below_step B5.out hb6)
  have z6 : w5.heap.size < w6.heap.size := K6.out.lt
  clear hb6 P5 Q5 C5 B5
  go_upto_region 6 with fail
  have D : Dv w (w6.alloc (.cells #[.int .i64 r1, .int .i64 r2, .int .i64 tn] 29)) w5.heap.size w6.heap.size k1 k2 r1 r2 tn :=
    ⟨P6.out.old, Q6.out.old, K6.out.old, Tri.newAt rfl, below_old B6.out⟩
  have CZ := hidIt (C6.out.kept ((Below.refl (c + 1) w6).alloc (by have := C6.out.lt; omega) (.cells #[.int .i64 r1, .int .i64 r2, .int .i64 tn] 29)))
  have e8 : c < w5.heap.size := z5
  have e9 : w5.heap.size < w6.heap.size := z6
  clear P6 Q6 K6 C6 B6 z5 z6
  generalize w6.alloc (.cells #[.int .i64 r1, .int .i64 r2, .int .i64 tn] 29) = wz at D CZ ⊢
  generalize w6.heap.size = b9 at D e9 ⊢
  generalize w5.heap.size = b8 at D e8 e9 ⊢
  have HD := hidIt D
  clear D
  have e7 : ¬ b8 = b9 := by omega
  have e10 : w.heap.size + 1 < b8 := by omega
  have e11 : w.heap.size + 1 < b9 := by omega
  have i0 : ¬ w.heap.size = b8 := by omega
  have i1 : ¬ w.heap.size = b9 := by omega
  have i2 : ¬ w.heap.size + 1 = b8 := by omega
  have i3 : ¬ w.heap.size + 1 = b9 := by omega
  have i4 : ¬ b8 = w.heap.size := by omega
  have i5 : ¬ b9 = w.heap.size := by omega
  have i6 : ¬ b8 = w.heap.size + 1 := by omega
  have i7 : ¬ b9 = w.heap.size + 1 := by omega
  have i8 : ¬ b8 = c := by omega
  have i9 : ¬ b9 = c := by omega
  go_wp2_with (fail)
  refine (l1Once_any _ c a len cap _ _ (by decide) CZ.out).mono ?_
  rintro e w7 ⟨f, rfl, hC7, hO7⟩
  have D7 := hidIt (HD.out.only hO7 hcs i8 i9)
  have C7 := hidIt hC7
  clear hC7 hO7 HD CZ
  cases f with
  | false =>
    go_upto_region 18 with fail
    have f0 := D7.out.p.c0
    have f1 := D7.out.p.c1
    have f2 := D7.out.p.f0
    have f3 := D7.out.p.f1
    have f4 := D7.out.q.c0
    have f5 := D7.out.q.c1
    have f6 := D7.out.q.c2
    have f7 := D7.out.q.f0
    have f8 := D7.out.q.f1
    have f9 := D7.out.q.f2
    have g0 := D7.out.k.c0
    have g1 := D7.out.k.c1
    have g2 := D7.out.r.c0
    have g3 := D7.out.r.c1
    have g4 := D7.out.r.c2
    have g5 := D7.out.p.lt
    have g6 := D7.out.q.lt
    go_region
    all_goals
      go_wp2_with (fail)
      have u := D7.out.fin
      refine bodyPost_ret (v := .tuple #[.agg #[.int .i64 k1, .int .i64 k2], .string s, .agg #[.int .i64 r1, .int .i64 r2, .int .i64 tn]]) ?_ rfl ⟨_, _, _, _, _, _, (by omega), rfl, u.2.2⟩
      refine ret_via4 u.1 u.2.1 (fun w9 k j => ?_)
      have k0 := k.c0
      have k1 := k.c1
      have j0 := j.c0
      have j1 := j.c1
      have j2 := j.c2
      clear k j u f0 f1 f2 f3 f4 f5 f6 f7 f8 f9 g0 g1 g2 g3 g4 g5 g6
      simp [results, Tryd.results9, go_sem, k0, k1, j0, j1, j2]
  | true =>
    go_wp2_with (fail)
    refine (l1Below_any _ c a len cap _ _ (by decide) C7.out).mono ?_
    rintro e w8 ⟨x, y0, y1, rfl, hC8, hO8⟩
    have D8 := hidIt (D7.out.only hO8 hcs i8 i9)
    have c8 := hC8.lt
    have C8 := hidIt hC8
    clear hC8 hO8 D7 C7
    have hx : x = 0 ∨ x = 1 ∨ x = 2 ∨ x = 3 ∨ x = 4 := by omega
    clear y0 y1
    rcases hx with rfl | rfl | rfl | rfl | rfl
    · go_wp2_with (fail)
      refine (l1Below_any _ c a len cap _ _ (by decide) (C8.out.kept ((Below.refl (c + 1) w8).alloc (by omega) _))).mono ?_
      rintro e w9 ⟨y, y0, y1, rfl, hC9, hO9⟩
      have hcell := fun o => hO9.cell (p := ⟨w8.heap.size, o, none⟩) (by simp) (by simp; omega)
      have z9 : w8.heap.size < w9.heap.size := by have := hO9.size; simp at this; omega
      have D9 := hidIt ((D8.out.alloc _).only hO9 hcs i8 i9)
      clear hC9 hO9 D8
      have n0 := D9.out.r.c2
      have n1 := D9.out.r.f2
      have n2 := D9.out.r.lt
      have hy : y = 0 ∨ y = 1 ∨ y = 2 ∨ y = 3 := by omega
      clear y0 y1
      rcases hy with rfl | rfl | rfl | rfl
      · go_upto_region 18 with fail
        have D10 := hidIt (D9.out.setT (t' := (-1)) e11 e7)
        clear hcell n0 n1 n2 D9
        generalize w9.setCell ⟨b9, 2, none⟩ (.int .i64 (-1)) = wy at D10 ⊢
        have f0 := D10.out.p.c0
        have f1 := D10.out.p.c1
        have f2 := D10.out.p.f0
        have f3 := D10.out.p.f1
        have f4 := D10.out.q.c0
        have f5 := D10.out.q.c1
        have f6 := D10.out.q.c2
        have f7 := D10.out.q.f0
        have f8 := D10.out.q.f1
        have f9 := D10.out.q.f2
        have g0 := D10.out.k.c0
        have g1 := D10.out.k.c1
        have g2 := D10.out.r.c0
        have g3 := D10.out.r.c1
        have g4 := D10.out.r.c2
        have g5 := D10.out.p.lt
        have g6 := D10.out.q.lt
        go_region
        all_goals
          go_wp2_with (fail)
          have u := D10.out.fin
          refine bodyPost_ret (v := .tuple #[.agg #[.int .i64 k1, .int .i64 k2], .string s, .agg #[.int .i64 r1, .int .i64 r2, .int .i64 (-1)]]) ?_ rfl ⟨_, _, _, _, _, _, (by omega), rfl, u.2.2⟩
          refine ret_via4 u.1 u.2.1 (fun w9 k j => ?_)
          have k0 := k.c0
          have k1 := k.c1
          have j0 := j.c0
          have j1 := j.c1
          have j2 := j.c2
          clear k j u f0 f1 f2 f3 f4 f5 f6 f7 f8 f9 g0 g1 g2 g3 g4 g5 g6
          simp [results, Tryd.results9, go_sem, k0, k1, j0, j1, j2]
      · go_upto_region 18 with fail
        have D10 := hidIt (D9.out.setT (t' := 0) e11 e7)
        clear hcell n0 n1 n2 D9
        generalize w9.setCell ⟨b9, 2, none⟩ (.int .i64 0) = wy at D10 ⊢
        have f0 := D10.out.p.c0
        have f1 := D10.out.p.c1
        have f2 := D10.out.p.f0
        have f3 := D10.out.p.f1
        have f4 := D10.out.q.c0
        have f5 := D10.out.q.c1
        have f6 := D10.out.q.c2
        have f7 := D10.out.q.f0
        have f8 := D10.out.q.f1
        have f9 := D10.out.q.f2
        have g0 := D10.out.k.c0
        have g1 := D10.out.k.c1
        have g2 := D10.out.r.c0
        have g3 := D10.out.r.c1
        have g4 := D10.out.r.c2
        have g5 := D10.out.p.lt
        have g6 := D10.out.q.lt
        go_region
        all_goals
          go_wp2_with (fail)
          have u := D10.out.fin
          refine bodyPost_ret (v := .tuple #[.agg #[.int .i64 k1, .int .i64 k2], .string s, .agg #[.int .i64 r1, .int .i64 r2, .int .i64 0]]) ?_ rfl ⟨_, _, _, _, _, _, (by omega), rfl, u.2.2⟩
          refine ret_via4 u.1 u.2.1 (fun w9 k j => ?_)
          have k0 := k.c0
          have k1 := k.c1
          have j0 := j.c0
          have j1 := j.c1
          have j2 := j.c2
          clear k j u f0 f1 f2 f3 f4 f5 f6 f7 f8 f9 g0 g1 g2 g3 g4 g5 g6
          simp [results, Tryd.results9, go_sem, k0, k1, j0, j1, j2]
      · go_upto_region 18 with fail
        have D10 := hidIt (D9.out.setT (t' := 2548) e11 e7)
        clear hcell n0 n1 n2 D9
        generalize w9.setCell ⟨b9, 2, none⟩ (.int .i64 2548) = wy at D10 ⊢
        have f0 := D10.out.p.c0
        have f1 := D10.out.p.c1
        have f2 := D10.out.p.f0
        have f3 := D10.out.p.f1
        have f4 := D10.out.q.c0
        have f5 := D10.out.q.c1
        have f6 := D10.out.q.c2
        have f7 := D10.out.q.f0
        have f8 := D10.out.q.f1
        have f9 := D10.out.q.f2
        have g0 := D10.out.k.c0
        have g1 := D10.out.k.c1
        have g2 := D10.out.r.c0
        have g3 := D10.out.r.c1
        have g4 := D10.out.r.c2
        have g5 := D10.out.p.lt
        have g6 := D10.out.q.lt
        go_region
        all_goals
          go_wp2_with (fail)
          have u := D10.out.fin
          refine bodyPost_ret (v := .tuple #[.agg #[.int .i64 k1, .int .i64 k2], .string s, .agg #[.int .i64 r1, .int .i64 r2, .int .i64 2548]]) ?_ rfl ⟨_, _, _, _, _, _, (by omega), rfl, u.2.2⟩
          refine ret_via4 u.1 u.2.1 (fun w9 k j => ?_)
          have k0 := k.c0
          have k1 := k.c1
          have j0 := j.c0
          have j1 := j.c1
          have j2 := j.c2
          clear k j u f0 f1 f2 f3 f4 f5 f6 f7 f8 f9 g0 g1 g2 g3 g4 g5 g6
          simp [results, Tryd.results9, go_sem, k0, k1, j0, j1, j2]
      · go_upto_region 18 with fail
        have D10 := hidIt (D9.out.setT (t' := 2549) e11 e7)
        clear hcell n0 n1 n2 D9
        generalize w9.setCell ⟨b9, 2, none⟩ (.int .i64 2549) = wy at D10 ⊢
        have f0 := D10.out.p.c0
        have f1 := D10.out.p.c1
        have f2 := D10.out.p.f0
        have f3 := D10.out.p.f1
        have f4 := D10.out.q.c0
        have f5 := D10.out.q.c1
        have f6 := D10.out.q.c2
        have f7 := D10.out.q.f0
        have f8 := D10.out.q.f1
        have f9 := D10.out.q.f2
        have g0 := D10.out.k.c0
        have g1 := D10.out.k.c1
        have g2 := D10.out.r.c0
        have g3 := D10.out.r.c1
        have g4 := D10.out.r.c2
        have g5 := D10.out.p.lt
        have g6 := D10.out.q.lt
        go_region
        all_goals
          go_wp2_with (fail)
          have u := D10.out.fin
          refine bodyPost_ret (v := .tuple #[.agg #[.int .i64 k1, .int .i64 k2], .string s, .agg #[.int .i64 r1, .int .i64 r2, .int .i64 2549]]) ?_ rfl ⟨_, _, _, _, _, _, (by omega), rfl, u.2.2⟩
          refine ret_via4 u.1 u.2.1 (fun w9 k j => ?_)
          have k0 := k.c0
          have k1 := k.c1
          have j0 := j.c0
          have j1 := j.c1
          have j2 := j.c2
          clear k j u f0 f1 f2 f3 f4 f5 f6 f7 f8 f9 g0 g1 g2 g3 g4 g5 g6
          simp [results, Tryd.results9, go_sem, k0, k1, j0, j1, j2]
    · go_wp2_with (fail)
      refine (l2Draw_any _ c a len cap _ C8.out).mono ?_
      rintro e w9 ⟨p, q, rfl, hC9, hO9⟩
      have D9 := hidIt (D8.out.only hO9 hcs i8 i9)
      clear hC9 hO9 D8
      have n0 := D9.out.r.c0
      have n1 := D9.out.r.c1
      have n2 := D9.out.r.f0
      have n3 := D9.out.r.f1
      have n4 := D9.out.r.lt
      go_upto_region 18 with fail
      have D10 := hidIt (D9.out.setR (x := p) (y := q) e11 e7)
      clear n0 n1 n2 n3 n4 D9
      generalize (w9.setCell ⟨b9, 0, none⟩ (.int .i64 p)).setCell ⟨b9, 1, none⟩ (.int .i64 q) = wy at D10 ⊢
      have f0 := D10.out.p.c0
      have f1 := D10.out.p.c1
      have f2 := D10.out.p.f0
      have f3 := D10.out.p.f1
      have f4 := D10.out.q.c0
      have f5 := D10.out.q.c1
      have f6 := D10.out.q.c2
      have f7 := D10.out.q.f0
      have f8 := D10.out.q.f1
      have f9 := D10.out.q.f2
      have g0 := D10.out.k.c0
      have g1 := D10.out.k.c1
      have g2 := D10.out.r.c0
      have g3 := D10.out.r.c1
      have g4 := D10.out.r.c2
      have g5 := D10.out.p.lt
      have g6 := D10.out.q.lt
      go_region
      all_goals
        go_wp2_with (fail)
        have u := D10.out.fin
        refine bodyPost_ret (v := .tuple #[.agg #[.int .i64 k1, .int .i64 k2], .string s, .agg #[.int .i64 p, .int .i64 q, .int .i64 tn]]) ?_ rfl ⟨_, _, _, _, _, _, (by omega), rfl, u.2.2⟩
        refine ret_via4 u.1 u.2.1 (fun w9 k j => ?_)
        have k0 := k.c0
        have k1 := k.c1
        have j0 := j.c0
        have j1 := j.c1
        have j2 := j.c2
        clear k j u f0 f1 f2 f3 f4 f5 f6 f7 f8 f9 g0 g1 g2 g3 g4 g5 g6
        simp [results, Tryd.results9, go_sem, k0, k1, j0, j1, j2]
    · go_wp2_with (fail)
      refine (l2Draw_any _ c a len cap _ C8.out).mono ?_
      rintro e w9 ⟨p, q, rfl, hC9, hO9⟩
      have D9 := hidIt (D8.out.only hO9 hcs i8 i9)
      clear hC9 hO9 D8
      have n0 := D9.out.k.c0
      have n1 := D9.out.k.c1
      have n2 := D9.out.k.f0
      have n3 := D9.out.k.f1
      have n4 := D9.out.k.lt
      go_upto_region 18 with fail
      have D10 := hidIt (D9.out.setK (x := p) (y := q) e10 e7)
      clear n0 n1 n2 n3 n4 D9
      generalize (w9.setCell ⟨b8, 0, none⟩ (.int .i64 p)).setCell ⟨b8, 1, none⟩ (.int .i64 q) = wy at D10 ⊢
      have f0 := D10.out.p.c0
      have f1 := D10.out.p.c1
      have f2 := D10.out.p.f0
      have f3 := D10.out.p.f1
      have f4 := D10.out.q.c0
      have f5 := D10.out.q.c1
      have f6 := D10.out.q.c2
      have f7 := D10.out.q.f0
      have f8 := D10.out.q.f1
      have f9 := D10.out.q.f2
      have g0 := D10.out.k.c0
      have g1 := D10.out.k.c1
      have g2 := D10.out.r.c0
      have g3 := D10.out.r.c1
      have g4 := D10.out.r.c2
      have g5 := D10.out.p.lt
      have g6 := D10.out.q.lt
      go_region
      all_goals
        go_wp2_with (fail)
        have u := D10.out.fin
        refine bodyPost_ret (v := .tuple #[.agg #[.int .i64 p, .int .i64 q], .string s, .agg #[.int .i64 r1, .int .i64 r2, .int .i64 tn]]) ?_ rfl ⟨_, _, _, _, _, _, (by omega), rfl, u.2.2⟩
        refine ret_via4 u.1 u.2.1 (fun w9 k j => ?_)
        have k0 := k.c0
        have k1 := k.c1
        have j0 := j.c0
        have j1 := j.c1
        have j2 := j.c2
        clear k j u f0 f1 f2 f3 f4 f5 f6 f7 f8 f9 g0 g1 g2 g3 g4 g5 g6
        simp [results, Tryd.results9, go_sem, k0, k1, j0, j1, j2]
    · have q0 : (⟨#[97]⟩ : ByteArray).size = 1 := rfl
      have q1 : ¬ 9223372036854775807 < s.size + 1 := by omega
      have hs2 : (s ++ (⟨#[97]⟩ : ByteArray)).size ≤ 7 := by rw [ByteArray.size_append, q0]; omega
      go_upto_region 18 with fail
      have f0 := D8.out.p.c0
      have f1 := D8.out.p.c1
      have f2 := D8.out.p.f0
      have f3 := D8.out.p.f1
      have f4 := D8.out.q.c0
      have f5 := D8.out.q.c1
      have f6 := D8.out.q.c2
      have f7 := D8.out.q.f0
      have f8 := D8.out.q.f1
      have f9 := D8.out.q.f2
      have g0 := D8.out.k.c0
      have g1 := D8.out.k.c1
      have g2 := D8.out.r.c0
      have g3 := D8.out.r.c1
      have g4 := D8.out.r.c2
      have g5 := D8.out.p.lt
      have g6 := D8.out.q.lt
      go_region
      all_goals
        go_wp2_with (fail)
        have u := D8.out.fin
        refine bodyPost_ret (v := .tuple #[.agg #[.int .i64 k1, .int .i64 k2], .string (s ++ ⟨#[97]⟩), .agg #[.int .i64 r1, .int .i64 r2, .int .i64 tn]]) ?_ rfl ⟨_, _, _, _, _, _, hs2, rfl, u.2.2⟩
        refine ret_via4 u.1 u.2.1 (fun w9 k j => ?_)
        have k0 := k.c0
        have k1 := k.c1
        have j0 := j.c0
        have j1 := j.c1
        have j2 := j.c2
        clear k j u f0 f1 f2 f3 f4 f5 f6 f7 f8 f9 g0 g1 g2 g3 g4 g5 g6
        simp [results, Tryd.results9, go_sem, k0, k1, j0, j1, j2]
    · have n0 := D8.out.r.c2
      have n1 := D8.out.r.f2
      have n2 := D8.out.r.lt
      go_upto_region 18 with fail
      have D10 := hidIt (D8.out.setT (t' := ((tn : Int) + 1) % 2549) e11 e7)
      clear n0 n1 n2 D8
      generalize w8.setCell ⟨b9, 2, none⟩ (.int .i64 (((tn : Int) + 1) % 2549)) = wy at D10 ⊢
      have f0 := D10.out.p.c0
      have f1 := D10.out.p.c1
      have f2 := D10.out.p.f0
      have f3 := D10.out.p.f1
      have f4 := D10.out.q.c0
      have f5 := D10.out.q.c1
      have f6 := D10.out.q.c2
      have f7 := D10.out.q.f0
      have f8 := D10.out.q.f1
      have f9 := D10.out.q.f2
      have g0 := D10.out.k.c0
      have g1 := D10.out.k.c1
      have g2 := D10.out.r.c0
      have g3 := D10.out.r.c1
      have g4 := D10.out.r.c2
      have g5 := D10.out.p.lt
      have g6 := D10.out.q.lt
      go_region
      all_goals
        go_wp2_with (fail)
        have u := D10.out.fin
        refine bodyPost_ret (v := .tuple #[.agg #[.int .i64 k1, .int .i64 k2], .string s, .agg #[.int .i64 r1, .int .i64 r2, .int .i64 (((tn : Int) + 1) % 2549)]]) ?_ rfl ⟨_, _, _, _, _, _, (by omega), rfl, u.2.2⟩
        refine ret_via4 u.1 u.2.1 (fun w9 k j => ?_)
        have k0 := k.c0
        have k1 := k.c1
        have j0 := j.c0
        have j1 := j.c1
        have j2 := j.c2
        clear k j u f0 f1 f2 f3 f4 f5 f6 f7 f8 f9 g0 g1 g2 g3 g4 g5 g6
        simp [results, Tryd.results9, go_sem, k0, k1, j0, j1, j2]
end Go.Proofs.YtbjmijajngedoaaDoor.Sg
