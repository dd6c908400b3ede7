/-
  Signed of the program at any number; of the specification; two Sigs held against one another.
  Valid of the program and of the specification: is the base, T times, R and the challenge times the key?
  Signed of the specification; two Sigs held against one another.
  Valid: both answer alike, whatever the key, the text and the Sig.
  Valid, in one plain function of any numbers and any text: both answer it.
-/
import Derived.Test.YtllajhieocploaaGreatDoorBun5
import Derived.Test.YtllajhieocploaaGreatDoorBun2
import Derived.Test.YtllajhieocploaaGreatDoorBun1
import Derived.Deep.RegionHeld3
import Derived.Laws.StructEq
namespace Go.Proofs.YtllajhieocploaaGreatDoor.Sg
open Go.ChangeShapes Go.WideShapes Go.ChangeAt Go.RowKit
open Cv Cu
theorem sgR_eq (n : Nat) (s : ByteArray) : sgR n s = ns (2791, 6375) (noN n s) := sgR.eq_1 n s
theorem pr (p : Nat × Nat) : (p.1, p.2) = p := rfl
theorem sgR_ok (n : Nat) (s : ByteArray) : okN ((sgR n s).1, (sgR n s).2) = true := by rw [pr, sgR_eq]; exact ns_ok ok_base _
theorem key_ok (n : Nat) : okN ((ns (2791, 6375) n).1, (ns (2791, 6375) n).2) = true := by rw [pr]; exact ns_ok ok_base _
/-- The challenge of what is signed. -/
def sgC (n : Nat) (s : ByteArray) : Nat := chN (sgR n s).1 (sgR n s).2 (ns (2791, 6375) n).1 (ns (2791, 6375) n).2 s
theorem sgC_eq (n : Nat) (s : ByteArray) : sgC n s = chN (sgR n s).1 (sgR n s).2 (ns (2791, 6375) n).1 (ns (2791, 6375) n).2 s := sgC.eq_1 n s
theorem sgC_lt (n : Nat) (s : ByteArray) : sgC n s < 2549 := by rw [sgC_eq]; exact chN_lt _ _ _ _ _
theorem sgT_eq (n : Nat) (s : ByteArray) : sgT n s = (noN n s + sgC n s * n) % 2549 := by rw [sgC_eq]; exact sgT.eq_1 n s
theorem noN_eq (n : Nat) (s : ByteArray) : noN n s = hashN (nums (numS n ++ blank ++ s)) % 2548 + 1 := noN.eq_1 n s
theorem timesBase_R (n : Nat) (s : ByteArray) (w : World) : Calls Tryz.prog 110 #[.int .i64 (noN n s)] w fun e w' => e = .returned (.agg #[.int .i64 (sgR n s).1, .int .i64 (sgR n s).2]) ∧ Below w.heap.size w w' := by
  have h := timesBase_any (noN n s) w (by have := noN_lt n s; omega)
  rw [← sgR_eq] at h
  exact h
theorem impl_Challenge_R (n : Nat) (s : ByteArray) (w : World) (hs : s.size ≤ 4611686018427380000) (ht : Tab w) :
    Calls Tryz.prog 112 #[.agg #[.int .i64 (sgR n s).1, .int .i64 (sgR n s).2], .agg #[.int .i64 (ns (2791, 6375) n).1, .int .i64 (ns (2791, 6375) n).2], .string s] w fun e w' => e = .returned (.int .i64 (sgC n s)) ∧ Below w.heap.size w w' := by
  rw [sgC_eq]
  exact impl_Challenge_yes (sgR n s).1 (sgR n s).2 (ns (2791, 6375) n).1 (ns (2791, 6375) n).2 s w (sgR_ok n s) (key_ok n) (by omega) ht
theorem impl_Signed_yes (n : Nat) (s : ByteArray) (w : World) (h1 : 0 < n) (h2 : n < 2549) (hs : s.size ≤ 4611686018427380000) (ht : Tab w) :
    Calls Tryz.prog 79 #[.int .i64 n, .string s] w fun e w' => e = .returned (.tuple #[.agg #[.int .i64 (sgR n s).1, .int .i64 (sgR n s).2, .int .i64 (sgT n s)], .bool true]) ∧ Below w.heap.size w w' :=
  impl_Signed_aux n (noN n s) (sgC n s) (sgR n s).1 (sgR n s).2 (ns (2791, 6375) n).1 (ns (2791, 6375) n).2 (sgT n s) s w ht h2 (noN_lt n s) (sgC_lt n s) (sgT_eq n s).symm
    (fun w => impl_KeyOf_yes n w h1 h2) (fun w t => nonceOf_any n s w (by omega) (by omega) t) (timesBase_R n s)
    (fun w t => impl_Challenge_R n s w hs t)
set_option maxRecDepth 100000 in
set_option maxHeartbeats 2000000 in
theorem impl_Signed_no (n : Int) (s : ByteArray) (w : World) (h : ¬ 0 < n ∨ 0 < n ∧ ¬ n < 2549) :
    Calls Tryz.prog 79 #[.int .i64 n, .string s] w fun e w' => e = .returned (.tuple #[.agg #[.int .i64 0, .int .i64 0, .int .i64 0], .bool false]) ∧ Below w.heap.size w w' := by
  have CK := hidIt (fun w => impl_KeyOf_no n w h)
  clear h
  go_enter Tryz.func79, Tryz.ntmps79
  go_wp2_with (fail)
  refine (CK.out _).mono ?_
  rintro e w1 ⟨rfl, hb1⟩
  have S1 := hidIt ((Tri.newAt (w := w) (x := 0) (y := 0) (z := 0) (T := 50) rfl).next hb1)
  have z1 : w.heap.size < w1.heap.size := S1.out.lt
  have x0 := S1.out.c0
  have x1 := S1.out.c1
  have x2 := S1.out.c2
  have x3 := S1.out.f0
  have x4 := S1.out.f1
  have x5 := S1.out.f2
  have z2 : w.heap.size < w1.heap.size + 1 := by omega
  go_wp2_with (fail)
  refine bodyPost_ret (v := .tuple #[.agg #[.int .i64 0, .int .i64 0, .int .i64 0], .bool false]) ?_ rfl ⟨rfl, ?_⟩
  · simp [results, Tryz.results79, go_sem, *]
  · have b := (((((Below.refl w.heap.size w).alloc (Nat.le_refl _) (.cells #[.int .i64 0, .int .i64 0, .int .i64 0] 50)).trans (hb1.mono (B' := w.heap.size) (by simp))).setCell (p := ⟨w.heap.size, 0, none⟩) (by simp) (.int .i64 0)).setCell (p := ⟨w.heap.size, 1, none⟩) (by simp) (.int .i64 0)).setCell (p := ⟨w.heap.size, 2, none⟩) (by simp) (.int .i64 0)
    exact b.alloc (by simp; omega) _
set_option maxRecDepth 100000 in
set_option maxHeartbeats 4000000 in
theorem l3Signed_aux (n k c R1 R2 K1 K2 T : Nat) (s x : ByteArray) (hh : Nat) (w : World) (h2 : n < 2549) (hc : c < 2549) (hk : hh % 2548 + 1 = k) (hT : (k + c * n) % 2549 = T) (hx : x.size ≤ 21) (hs : s.size ≤ 4611686018427380000) (hlt : hh < 2147483647)
    (cn : ∀ w, Calls Tryz.prog 89 #[.int .i64 n] w fun e w' => e = .returned (.string x) ∧ Below w.heap.size w w')
    (ch : ∀ w, Calls Tryz.prog 88 #[.string (x ++ ⟨#[32]⟩ ++ s)] w fun e w' => e = .returned (.int .i64 hh) ∧ w' = w)
    (cr : ∀ w, Calls Tryz.prog 106 #[.int .i64 k, .agg #[.int .i64 2791, .int .i64 6375]] w fun e w' => e = .returned (.agg #[.int .i64 R1, .int .i64 R2]) ∧ Below w.heap.size w w')
    (ck : ∀ w, Calls Tryz.prog 106 #[.int .i64 n, .agg #[.int .i64 2791, .int .i64 6375]] w fun e w' => e = .returned (.agg #[.int .i64 K1, .int .i64 K2]) ∧ Below w.heap.size w w')
    (cc : ∀ w, Calls Tryz.prog 129 #[.agg #[.int .i64 R1, .int .i64 R2], .agg #[.int .i64 K1, .int .i64 K2], .string s] w fun e w' => e = .returned (.int .i64 c) ∧ Below w.heap.size w w') :
    Calls Tryz.prog 108 #[.int .i64 n, .string s] w fun e w' => e = .returned (.agg #[.int .i64 R1, .int .i64 R2, .int .i64 T]) ∧ Below w.heap.size w w' := by
  have CK := hidIt ck
  have CN := hidIt cn
  have CH := hidIt ch
  have CR := hidIt cr
  have CC := hidIt cc
  have hp := prod_le hc h2
  have hk2 : k < 2549 := by omega
  have q1 : (0 : Int) ≤ (c : Int) * (n : Int) := Int.mul_nonneg (by omega) (by omega)
  have q2 : (c : Int) * (n : Int) ≤ 6492304 := by rw [← Int.natCast_mul]; omega
  have q3 : ((k : Int) + (c : Int) * (n : Int)).tmod 2549 = (T : Int) := by rw [Int.tmod_eq_emod_of_nonneg (by omega), ← Int.natCast_mul, ← hT]; omega
  have q4 : ((k : Int) + (c : Int) * (n : Int)) % 2549 = (T : Int) := by rw [← Int.natCast_mul, ← hT]; omega
  have e1 : IntKind.i64.wrap ((c : Int) * (n : Int)) = (c : Int) * (n : Int) := wrap_small _ q1 (by omega)
  have e2 : IntKind.i64.wrap ((k : Int) + (c : Int) * (n : Int)) = (k : Int) + (c : Int) * (n : Int) := wrap_small _ (by omega) (by omega)
  have e3 : (hh : Int) % 2548 + 1 = (k : Int) := by omega
  have p0 : (0 : Int) ≤ (hh : Int) := by omega
  have p1 : (hh : Int) < 2147483647 := by omega
  have g0 : (⟨#[32]⟩ : ByteArray).size = 1 := rfl
  have g1 : ¬ 9223372036854775807 < x.size + 1 := by omega
  have g2 : ¬ 9223372036854775807 < x.size + 1 + s.size := by omega
  clear ck cn ch cr cc hT hp hk
  go_enter Tryz.func108, Tryz.ntmps108
  go_wp2_with (fail)
  refine (CN.out _).mono ?_
  rintro e w1 ⟨rfl, hb1⟩
  have S1 := hidIt ((Tri.newAt (w := w) (x := 0) (y := 0) (z := 0) (T := 50) rfl).next hb1)
  have B1 := hidIt (below_step (Below.refl w.heap.size w) hb1)
  clear hb1
  go_wp2_with (fail)
  refine (CH.out _).mono ?_
  rintro e w2 ⟨rfl, rfl⟩
  go_wp2_with (fail)
  refine (spec_Base _).mono ?_
  rintro e w3 ⟨rfl, hb3⟩
  have S3 := hidIt (S1.out.next hb3)
  have B3 := hidIt (below_next B1.out hb3)
  clear hb3 S1 B1
  go_wp2_with (fail)
  refine (CR.out _).mono ?_
  rintro e w4 ⟨rfl, hb4⟩
  have S4 := hidIt (S3.out.next hb4)
  have B4 := hidIt (below_next B3.out hb4)
  clear hb4 S3 B3
  go_upto_region 3 with fail
  have SZ := S4.out.old (o := .cells #[.int .i64 R1, .int .i64 R2] 48)
  have RZ := Tw.newAt (w := w4) (x := R1) (y := R2) (T := 48) rfl
  have BZ := below_old (o := .cells #[.int .i64 R1, .int .i64 R2] 48) B4.out
  clear S4 B4
  generalize w4.alloc (.cells #[.int .i64 R1, .int .i64 R2] 48) = wz at SZ RZ BZ ⊢
  generalize w4.heap.size = bR at RZ ⊢
  have HS := hidIt SZ
  have HBZ := hidIt BZ
  have HR := hidIt RZ
  have r0 := RZ.c0
  have r1 := RZ.c1
  have r2 := RZ.lt
  clear SZ BZ RZ
  go_region_with (first
    | (go_at_call 107; refine (spec_Base _).mono ?_; rintro e wA ⟨rfl, hbA⟩; have HA := hidIt (HS.out.drew.next hbA); have RA := hidIt ((Sg.Tw.drew HR.out).next hbA); have BA := hidIt (below_next (Below.drew HBZ.out) hbA); have rA0 := RA.out.c0; have rA1 := RA.out.c1; have rA2 := RA.out.lt; clear hbA)
    | (go_at_call 106; refine (CK.out _).mono ?_; rintro e wB ⟨rfl, hbB⟩; have HB := hidIt (HA.out.next hbB); have RB := hidIt (RA.out.next hbB); have BB := hidIt (below_next BA.out hbB); have rB0 := RB.out.c0; have rB1 := RB.out.c1; have rB2 := RB.out.lt; clear hbB)
    | (go_at_call 129; refine (CC.out _).mono ?_; rintro e wC ⟨rfl, hbC⟩; have HC := hidIt (HB.out.next hbC); have RC := hidIt (RB.out.next hbC); have BC := hidIt (below_next BB.out hbC); have rC0 := RC.out.c0; have rC1 := RC.out.c1; have rC2 := RC.out.lt; have x0 := HC.out.c0; have x1 := HC.out.c1; have x2 := HC.out.c2; have x3 := HC.out.f0; have x4 := HC.out.f1; have x5 := HC.out.f2; have x6 := HC.out.lt; clear hbC))
  all_goals
    go_wp2_with (fail)
    refine bodyPost_ret (v := .agg #[.int .i64 R1, .int .i64 R2, .int .i64 T]) ?_ rfl ⟨rfl, ((BC.out.setCell (by simp) _).setCell (by simp) _).setCell (by simp) _⟩
    refine ret_via3 (HC.out.put (x' := R1) (y' := R2) (z' := T)) (fun w9 j => ?_)
    have j0 := j.c0
    have j1 := j.c1
    have j2 := j.c2
    clear j x0 x1 x2 x3 x4 x5 x6 r0 r1 r2 rA0 rA1 rA2 rB0 rB1 rB2 rC0 rC1 rC2
    simp [results, Tryz.results108, go_sem, j0, j1, j2]
theorem l2Times_R (n : Nat) (s : ByteArray) (w : World) : Calls Tryz.prog 106 #[.int .i64 (noN n s), .agg #[.int .i64 2791, .int .i64 6375]] w fun e w' => e = .returned (.agg #[.int .i64 (sgR n s).1, .int .i64 (sgR n s).2]) ∧ Below w.heap.size w w' := by
  have h := l2Times_any 2791 6375 (noN n s) w ok_base (by have := noN_lt n s; omega)
  rw [← sgR_eq] at h
  exact h
theorem l3Challenge_R (n : Nat) (s : ByteArray) (w : World) (hs : s.size ≤ 4611686018427380000) :
    Calls Tryz.prog 129 #[.agg #[.int .i64 (sgR n s).1, .int .i64 (sgR n s).2], .agg #[.int .i64 (ns (2791, 6375) n).1, .int .i64 (ns (2791, 6375) n).2], .string s] w fun e w' => e = .returned (.int .i64 (sgC n s)) ∧ Below w.heap.size w w' := by
  rw [sgC_eq]
  have h1 := ok_le (sgR_ok n s)
  have h2 := ok_le (key_ok n)
  exact l3Challenge_any (sgR n s).1 (sgR n s).2 (ns (2791, 6375) n).1 (ns (2791, 6375) n).2 s w h1.1 h1.2 h2.1 h2.2 hs
theorem l1Int_S (n : Nat) (w : World) (hn : n < 2549) : Calls Tryz.prog 89 #[.int .i64 n] w fun e w' => e = .returned (.string (numS n)) ∧ Below w.heap.size w w' := by
  have h := l1Int_any n w (by omega)
  rw [show (⟨(Lib.itoa n).toArray⟩ : ByteArray) = numS n from (numS.eq_1 n).symm] at h
  exact h
theorem spec_Hash_S (n : Nat) (s : ByteArray) (w : World) (hn : n < 2549) (hs : s.size ≤ 4611686018427380000) : Calls Tryz.prog 88 #[.string (numS n ++ ⟨#[32]⟩ ++ s)] w fun e w' => e = .returned (.int .i64 (hashN (nums (numS n ++ blank ++ s)))) ∧ w' = w := by
  rw [← blank.eq_1]
  exact spec_Hash _ w (by have := numS_size n (by omega); rw [ByteArray.size_append, ByteArray.size_append, blank_size]; omega)
theorem l3Signed_any (n : Nat) (s : ByteArray) (w : World) (h2 : n < 2549) (hs : s.size ≤ 4611686018427380000) :
    Calls Tryz.prog 108 #[.int .i64 n, .string s] w fun e w' => e = .returned (.agg #[.int .i64 (sgR n s).1, .int .i64 (sgR n s).2, .int .i64 (sgT n s)]) ∧ Below w.heap.size w w' :=
  l3Signed_aux n (noN n s) (sgC n s) (sgR n s).1 (sgR n s).2 (ns (2791, 6375) n).1 (ns (2791, 6375) n).2 (sgT n s) s (numS n) (hashN (nums (numS n ++ blank ++ s))) w h2 (sgC_lt n s) (noN_eq n s).symm (sgT_eq n s).symm (numS_size n (by omega)) hs (hashN_lt _)
    (fun w => l1Int_S n w h2) (fun w => spec_Hash_S n s w h2 hs) (l2Times_R n s) (fun w => l2Times_any 2791 6375 n w ok_base (by omega))
    (fun w => l3Challenge_R n s w hs)
end Go.Proofs.YtllajhieocploaaGreatDoor.Sg
namespace Go.Proofs.YtllajhieocploaaGreatDoor.Sg
open Go.ChangeShapes Go.WideShapes Go.ChangeAt Go.RowKit
open Cv Cu
/-- Five cells: two of a block, three of the next one. -/
def Five (w : World) (s : Nat) (a b c d e : Int) : Prop := w.cell? ⟨s, 0, none⟩ = some (.int .i64 a) ∧ w.cell? ⟨s, 1, none⟩ = some (.int .i64 b) ∧ w.cell? ⟨s + 1, 0, none⟩ = some (.int .i64 c) ∧ w.cell? ⟨s + 1, 1, none⟩ = some (.int .i64 d) ∧ w.cell? ⟨s + 1, 2, none⟩ = some (.int .i64 e)
theorem five_kept {W wA : World} {s : Nat} {a b c d e : Int} (k : Below W.heap.size W wA)
    (h : W.cell? ⟨s, 0, none⟩ = some (.int .i64 a) ∧ W.cell? ⟨s, 1, none⟩ = some (.int .i64 b) ∧ W.cell? ⟨s + 1, 0, none⟩ = some (.int .i64 c) ∧ W.cell? ⟨s + 1, 1, none⟩ = some (.int .i64 d) ∧ W.cell? ⟨s + 1, 2, none⟩ = some (.int .i64 e)) (hs : s + 1 < W.heap.size) :
    wA.cell? ⟨s, 0, none⟩ = some (.int .i64 a) ∧ wA.cell? ⟨s, 1, none⟩ = some (.int .i64 b) ∧ wA.cell? ⟨s + 1, 0, none⟩ = some (.int .i64 c) ∧ wA.cell? ⟨s + 1, 1, none⟩ = some (.int .i64 d) ∧ wA.cell? ⟨s + 1, 2, none⟩ = some (.int .i64 e) := by
  rw [k.cell (by simp; omega), k.cell (by simp; omega), k.cell (by simp; omega), k.cell (by simp; omega), k.cell (by simp; omega)]
  exact h
theorem five_kept_drew {W wA : World} {s : Nat} {a b c d e : Int} (k : Below W.drew.heap.size W.drew wA)
    (h : W.cell? ⟨s, 0, none⟩ = some (.int .i64 a) ∧ W.cell? ⟨s, 1, none⟩ = some (.int .i64 b) ∧ W.cell? ⟨s + 1, 0, none⟩ = some (.int .i64 c) ∧ W.cell? ⟨s + 1, 1, none⟩ = some (.int .i64 d) ∧ W.cell? ⟨s + 1, 2, none⟩ = some (.int .i64 e)) (hs : s + 1 < W.heap.size) :
    wA.cell? ⟨s, 0, none⟩ = some (.int .i64 a) ∧ wA.cell? ⟨s, 1, none⟩ = some (.int .i64 b) ∧ wA.cell? ⟨s + 1, 0, none⟩ = some (.int .i64 c) ∧ wA.cell? ⟨s + 1, 1, none⟩ = some (.int .i64 d) ∧ wA.cell? ⟨s + 1, 2, none⟩ = some (.int .i64 e) :=
  five_kept (W := W.drew) k h hs
theorem five_new (w : World) (a b c d e : Int) (T1 T2 : TypeId) :
    ((w.alloc (.cells #[.int .i64 a, .int .i64 b] T1)).alloc (.cells #[.int .i64 c, .int .i64 d, .int .i64 e] T2)).cell? ⟨w.heap.size, 0, none⟩ = some (.int .i64 a) ∧ ((w.alloc (.cells #[.int .i64 a, .int .i64 b] T1)).alloc (.cells #[.int .i64 c, .int .i64 d, .int .i64 e] T2)).cell? ⟨w.heap.size, 1, none⟩ = some (.int .i64 b) ∧ ((w.alloc (.cells #[.int .i64 a, .int .i64 b] T1)).alloc (.cells #[.int .i64 c, .int .i64 d, .int .i64 e] T2)).cell? ⟨w.heap.size + 1, 0, none⟩ = some (.int .i64 c) ∧ ((w.alloc (.cells #[.int .i64 a, .int .i64 b] T1)).alloc (.cells #[.int .i64 c, .int .i64 d, .int .i64 e] T2)).cell? ⟨w.heap.size + 1, 1, none⟩ = some (.int .i64 d) ∧ ((w.alloc (.cells #[.int .i64 a, .int .i64 b] T1)).alloc (.cells #[.int .i64 c, .int .i64 d, .int .i64 e] T2)).cell? ⟨w.heap.size + 1, 2, none⟩ = some (.int .i64 e) := by
  have t0 := (Tw.newAt (w := w) (x := a) (y := b) (T := T1) rfl).old (o := .cells #[.int .i64 c, .int .i64 d, .int .i64 e] T2)
  refine ⟨t0.c0, t0.c1, ?_, ?_, ?_⟩
  all_goals
    have h := World.cell?_alloc_mark (w.alloc (.cells #[.int .i64 a, .int .i64 b] T1)) #[.int .i64 c, .int .i64 d, .int .i64 e] T2 (0, 0)
    have hz : (w.alloc (.cells #[.int .i64 a, .int .i64 b] T1)).heap.size = w.heap.size + 1 := by simp
    rw [hz] at h
    rw [h]
    rfl
theorem Five.next {w w' : World} {s : Nat} {a b c d e : Int} (h : Five w s a b c d e) (k : Below w.heap.size w w') (hs : s + 1 < w.heap.size) : Five w' s a b c d e := five_kept k h hs
end Go.Proofs.YtllajhieocploaaGreatDoor.Sg
namespace Go.Proofs.YtllajhieocploaaGreatDoor.Sg
open Go.ChangeShapes Go.WideShapes Go.ChangeAt Go.RowKit
open Cv Cu
set_option maxHeartbeats 2000000 in
theorem eqSig_same (x y t : Int) (w : World) : Calls Tryz.prog 83 #[.agg #[.int .i64 x, .int .i64 y, .int .i64 t], .agg #[.int .i64 x, .int .i64 y, .int .i64 t]] w fun e w' => e = .returned (.bool true) ∧ Below w.heap.size w w' := by
  have h1 : (t != t) = false := by simp
  have z0 : w.heap.size < w.heap.size + 1 + 1 := by omega
  go_enter Tryz.func83, Tryz.ntmps83
  go_wp2_with (fail)
  refine (eqPoint_same _ _ _).mono ?_
  rintro e w1 ⟨rfl, hb1⟩
  obtain ⟨hc1, hf1⟩ := bcell hb1
  have z1 : w.heap.size + 1 < w1.heap.size := by have := hb1.size; simp at this; omega
  go_wp2_with (fail)
  go_ret
  exact ⟨rfl, (((Below.refl _ _).alloc (Nat.le_refl _) _).alloc (by simp) _).trans (hb1.mono (B' := w.heap.size) (by simp; omega))⟩
end Go.Proofs.YtllajhieocploaaGreatDoor.Sg
namespace Go.Proofs.YtllajhieocploaaGreatDoor.Sg
open Go.ChangeShapes Go.WideShapes Go.ChangeAt Go.RowKit
open Cv Cu
theorem pr' (p : Nat × Nat) : (p.1, p.2) = p := rfl
theorem ns_lt' {a b : Nat} (h : okN (a, b) = true) (n : Nat) : (ns (a, b) n).1 < 10007 ∧ (ns (a, b) n).2 < 10007 := ok_el (ns_ok h n)
theorem ns_ok' {a b : Nat} (h : okN (a, b) = true) (n : Nat) : okN ((ns (a, b) n).1, (ns (a, b) n).2) = true := by rw [pr']; exact ns_ok h n
end Go.Proofs.YtllajhieocploaaGreatDoor.Sg
namespace Go.Proofs.YtllajhieocploaaGreatDoor.Sg
open Go.ChangeShapes Go.WideShapes Go.ChangeAt Go.RowKit
open Cv Cu
end Go.Proofs.YtllajhieocploaaGreatDoor.Sg
