/-
  Signed of the program and of the specification: R and T of a secret and a text; the zero Sig and false when it is no secret.
-/
import Derived.Test.YtniadgjckjnfiaaDoorSignC
import Derived.Test.YtniadgjckjnfiaaDoorSignK
import Derived.Test.YtniadgjckjnfiaaDoorLawD
namespace Go.Proofs.YtniadgjckjnfiaaDoor.Sg
open Go.ChangeShapes Go.WideShapes Go.ChangeAt Go.RowKit
open Cv Cu
/-- R of a secret and a text. -/
def sgR (n : Nat) (s : ByteArray) : Nat × Nat := ns (2791, 6375) (noN n s)
/-- T of a secret and a text. -/
def sgT (n : Nat) (s : ByteArray) : Nat := (noN n s + chN (sgR n s).1 (sgR n s).2 (ns (2791, 6375) n).1 (ns (2791, 6375) n).2 s * n) % 2549
theorem sgT_lt (n : Nat) (s : ByteArray) : sgT n s < 2549 := Nat.mod_lt _ (by omega)
theorem wrap_small (m : Int) (h1 : 0 ≤ m) (h2 : m ≤ 9000000000) : IntKind.i64.wrap m = m := by rw [IntKind.wrap_i64]; omega
theorem prod_le {c n : Nat} (hc : c < 2549) (hn : n < 2549) : c * n ≤ 6492304 := Nat.mul_le_mul (show c ≤ 2548 by omega) (show n ≤ 2548 by omega)
/-- Block b holds the three numbers x, y, z, and may be written. -/
structure Tri (w : World) (b : Nat) (x y z : Int) : Prop where
  lt : b < w.heap.size
  c0 : w.cell? ⟨b, 0, none⟩ = some (.int .i64 x)
  c1 : w.cell? ⟨b, 1, none⟩ = some (.int .i64 y)
  c2 : w.cell? ⟨b, 2, none⟩ = some (.int .i64 z)
  f0 : w.frozen? ⟨b, 0, none⟩ = false
  f1 : w.frozen? ⟨b, 1, none⟩ = false
  f2 : w.frozen? ⟨b, 2, none⟩ = false
theorem Tri.next {w w' : World} {b : Nat} {x y z : Int} (h : Tri w b x y z) (k : Below w.heap.size w w') : Tri w' b x y z :=
  ⟨Nat.lt_of_lt_of_le h.lt k.size, by rw [k.cell (by simpa using h.lt)]; exact h.c0, by rw [k.cell (by simpa using h.lt)]; exact h.c1, by rw [k.cell (by simpa using h.lt)]; exact h.c2, by rw [k.frozen (by simpa using h.lt)]; exact h.f0, by rw [k.frozen (by simpa using h.lt)]; exact h.f1, by rw [k.frozen (by simpa using h.lt)]; exact h.f2⟩
theorem Tri.old {w : World} {o : Obj} {b : Nat} {x y z : Int} (h : Tri w b x y z) : Tri (w.alloc o) b x y z := h.next ((Below.refl w.heap.size w).alloc (Nat.le_refl _) o)
theorem Tri.newAt {w : World} {x y z : Int} {T : TypeId} {k : Nat} (h : w.heap.size = k) : Tri (w.alloc (.cells #[.int .i64 x, .int .i64 y, .int .i64 z] T)) k x y z := by
  subst h; exact ⟨by simp, by simp, by simp, by simp, by simp, by simp, by simp⟩
theorem Tri.put {w : World} {b : Nat} {x y z x' y' z' : Int} (h : Tri w b x y z) : Tri (((w.setCell ⟨b, 0, none⟩ (.int .i64 x')).setCell ⟨b, 1, none⟩ (.int .i64 y')).setCell ⟨b, 2, none⟩ (.int .i64 z')) b x' y' z' := by
  refine ⟨by simpa [World.setCell] using h.lt, ?_, ?_, ?_, ?_, ?_, ?_⟩
  · rw [cell_set_other (by decide), cell_set_other (by decide)]; exact World.cell?_setCell_same' _ _ _ (by rw [h.c0]; rfl)
  · rw [cell_set_other (by decide)]; exact World.cell?_setCell_same' _ _ _ (by rw [cell_set_other (by decide), h.c1]; rfl)
  · exact World.cell?_setCell_same' _ _ _ (by rw [cell_set_other (by decide), cell_set_other (by decide), h.c2]; rfl)
  · simpa using h.f0
  · simpa using h.f1
  · simpa using h.f2
theorem Tri.drew {w : World} {b : Nat} {x y z : Int} (h : Tri w b x y z) : Tri w.drew b x y z := ⟨h.lt, h.c0, h.c1, h.c2, h.f0, h.f1, h.f2⟩
theorem Tw.drew {w : World} {b : Nat} {x y : Int} (h : Tw w b x y) : Tw w.drew b x y := ⟨h.lt, h.c0, h.c1⟩
theorem ret_via3 {fn : Func} {tm : Array Value} {wf : World} {b : Nat} {x y z : Int} {v : Value} (t : Tri wf b x y z) (h : ∀ w2, Tri w2 b x y z → (results fn tm).run Tryd.prog w2 = .ok v w2) : (results fn tm).run Tryd.prog wf = .ok v wf := h wf t
set_option maxRecDepth 100000 in
set_option maxHeartbeats 4000000 in
theorem impl_Signed_aux (n k c R1 R2 K1 K2 T : Nat) (s : ByteArray) (w : World) (ht : Tab w) (h2 : n < 2549) (hk : k < 2549) (hc : c < 2549) (hT : (k + c * n) % 2549 = T)
    (ck : ∀ w, Calls Tryd.prog 26 #[.int .i64 n] w fun e w' => e = .returned (.tuple #[.agg #[.int .i64 K1, .int .i64 K2], .bool true]) ∧ Below w.heap.size w w')
    (cn : ∀ w, Tab w → Calls Tryd.prog 50 #[.int .i64 n, .string s] w fun e w' => e = .returned (.int .i64 k) ∧ Below w.heap.size w w')
    (cb : ∀ w, Calls Tryd.prog 49 #[.int .i64 k] w fun e w' => e = .returned (.agg #[.int .i64 R1, .int .i64 R2]) ∧ Below w.heap.size w w')
    (cc : ∀ w, Tab w → Calls Tryd.prog 51 #[.agg #[.int .i64 R1, .int .i64 R2], .agg #[.int .i64 K1, .int .i64 K2], .string s] w fun e w' => e = .returned (.int .i64 c) ∧ Below w.heap.size w w') :
    Calls Tryd.prog 28 #[.int .i64 n, .string s] w fun e w' => e = .returned (.tuple #[.agg #[.int .i64 R1, .int .i64 R2, .int .i64 T], .bool true]) ∧ Below w.heap.size w w' := by
  have CK := hidIt ck
  have CN := hidIt cn
  have CB := hidIt cb
  have CC := hidIt cc
  have HT := hidIt ht
  have hp := prod_le hc h2
  have q1 : (0 : Int) ≤ (c : Int) * (n : Int) := Int.mul_nonneg (by omega) (by omega)
  have q2 : (c : Int) * (n : Int) ≤ 6492304 := by rw [← Int.natCast_mul]; omega
  have q3 : ((k : Int) + (c : Int) * (n : Int)).tmod 2549 = (T : Int) := by rw [Int.tmod_eq_emod_of_nonneg (by omega), ← Int.natCast_mul, ← hT]; omega
  have q4 : ((k : Int) + (c : Int) * (n : Int)) % 2549 = (T : Int) := by rw [← Int.natCast_mul, ← hT]; omega
  have e1 : IntKind.i64.wrap ((c : Int) * (n : Int)) = (c : Int) * (n : Int) := wrap_small _ q1 (by omega)
  have e2 : IntKind.i64.wrap ((k : Int) + (c : Int) * (n : Int)) = (k : Int) + (c : Int) * (n : Int) := wrap_small _ (by omega) (by omega)
  clear ck cn cb cc ht hT hp
  go_enter Tryd.func28, Tryd.ntmps28
  go_wp2_with (fail)
  refine (CK.out _).mono ?_
  rintro e w1 ⟨rfl, hb1⟩
  have z1 : w.heap.size < w1.heap.size := by have := hb1.size; simp at this; omega
  have B1 := hidIt (((Below.refl w.heap.size w).alloc (Nat.le_refl _) (.cells #[.int .i64 0, .int .i64 0, .int .i64 0] 25)).trans (hb1.mono (B' := w.heap.size) (by simp)))
  have S1 := hidIt ((Tri.newAt (w := w) (x := 0) (y := 0) (z := 0) rfl).next hb1)
  clear hb1
  go_wp2_with (fail)
  refine (CN.out _ (HT.out.kept (B1.out.alloc (by omega) _))).mono ?_
  rintro e w2 ⟨rfl, hb2⟩
  have S2 := hidIt (S1.out.old.next hb2)
  have K2t := hidIt ((Tw.newAt (x := K1) (y := K2) rfl).next hb2)
  have B2 := hidIt (below_step B1.out hb2)
  clear hb2 S1 B1
  go_wp2_with (fail)
  refine (CB.out _).mono ?_
  rintro e w3 ⟨rfl, hb3⟩
  have S3 := hidIt (S2.out.next hb3)
  have K3t := hidIt (K2t.out.next hb3)
  have B3 := hidIt (below_next B2.out hb3)
  clear hb3 S2 K2t B2
  go_upto_region 6 with fail
  have SZ := S3.out.old (o := .cells #[.int .i64 R1, .int .i64 R2] 23)
  have KZ := K3t.out.old (o := .cells #[.int .i64 R1, .int .i64 R2] 23)
  have RZ := Tw.newAt (w := w3) (x := R1) (y := R2) (T := 23) rfl
  have BZ := below_old (o := .cells #[.int .i64 R1, .int .i64 R2] 23) B3.out
  clear S3 K3t B3
  generalize w3.alloc (.cells #[.int .i64 R1, .int .i64 R2] 23) = wz at SZ KZ RZ BZ ⊢
  generalize w3.heap.size = bR at RZ ⊢
  generalize w1.heap.size = bK at KZ z1 ⊢
  have TZ := hidIt (HT.out.kept BZ)
  have HS := hidIt SZ
  have HBZ := hidIt BZ
  have HR := hidIt RZ
  have HK := hidIt KZ
  have r0 := RZ.c0
  have r1 := RZ.c1
  have r2 := RZ.lt
  have k0 := KZ.c0
  have k1 := KZ.c1
  have k2 := KZ.lt
  have s0 := SZ.c0
  have s1 := SZ.c1
  have s2 := SZ.c2
  have s3 := SZ.f0
  have s4 := SZ.f1
  have s5 := SZ.f2
  have s6 := SZ.lt
  clear SZ BZ KZ RZ
  go_region_with (go_at_call 51; refine (CC.out _ (TZ.out.kept (Below.drew (Below.refl _ _)))).mono ?_; rintro e w4 ⟨rfl, hb4⟩; have z4 : wz.heap.size ≤ w4.heap.size := hb4.size; have H4 := hidIt (HS.out.drew.next hb4); have B4 := hidIt (below_next (Below.drew HBZ.out) hb4); have x0 := H4.out.c0; have x1 := H4.out.c1; have x2 := H4.out.c2; have x3 := H4.out.f0; have x4 := H4.out.f1; have x5 := H4.out.f2; have x6 := H4.out.lt; have y0 := ((Sg.Tw.drew HR.out).next hb4).c0; have y1 := ((Sg.Tw.drew HR.out).next hb4).c1; clear hb4)
  all_goals
    go_wp2_with (fail)
    refine bodyPost_ret (v := .tuple #[.agg #[.int .i64 R1, .int .i64 R2, .int .i64 T], .bool true]) ?_ rfl ⟨rfl, ((B4.out.setCell (by simp) _).setCell (by simp) _).setCell (by simp) _⟩
    refine ret_via3 (H4.out.put (x' := R1) (y' := R2) (z' := T)) (fun w9 j => ?_)
    have j0 := j.c0
    have j1 := j.c1
    have j2 := j.c2
    clear j x0 x1 x2 x3 x4 x5 x6 y0 y1 s0 s1 s2 s3 s4 s5 s6 r0 r1 r2 k0 k1 k2
    simp [results, Tryd.results28, go_sem, j0, j1, j2]
end Go.Proofs.YtniadgjckjnfiaaDoor.Sg
