/-
  Valid of the program and of the specification: is the base, T times, R and the challenge times the key?
-/
import Derived.Test.YtmdlgogpgedgnaaGreatDoorSignC
import Derived.Test.YtmdlgogpgedgnaaGreatDoorSignK
import Derived.Test.YtmdlgogpgedgnaaGreatDoorLawD
import Derived.Deep.RegionHeld3
import Derived.Laws.StructEq
namespace Go.Proofs.YtmdlgogpgedgnaaGreatDoor.Sg
open Go.ChangeShapes Go.WideShapes Go.ChangeAt Go.RowKit
open Cv Cu
/-- Five cells: two of a block, three of the next one. -/
def Five (w : World) (s : Nat) (a b c d e : Int) : Prop := w.cell? ⟨s, 0, none⟩ = some (.int .i64 a) ∧ w.cell? ⟨s, 1, none⟩ = some (.int .i64 b) ∧ w.cell? ⟨s + 1, 0, none⟩ = some (.int .i64 c) ∧ w.cell? ⟨s + 1, 1, none⟩ = some (.int .i64 d) ∧ w.cell? ⟨s + 1, 2, none⟩ = some (.int .i64 e)
theorem five_kept {W wA : World} {s : Nat} {a b c d e : Int} (k : Below W.heap.size W wA)
    (h : W.cell? ⟨s, 0, none⟩ = some (.int .i64 a) ∧ W.cell? ⟨s, 1, none⟩ = some (.int .i64 b) ∧ W.cell? ⟨s + 1, 0, none⟩ = some (.int .i64 c) ∧ W.cell? ⟨s + 1, 1, none⟩ = some (.int .i64 d) ∧ W.cell? ⟨s + 1, 2, none⟩ = some (.int .i64 e)) (hs : s + 1 < W.heap.size) :
    wA.cell? ⟨s, 0, none⟩ = some (.int .i64 a) ∧ wA.cell? ⟨s, 1, none⟩ = some (.int .i64 b) ∧ wA.cell? ⟨s + 1, 0, none⟩ = some (.int .i64 c) ∧ wA.cell? ⟨s + 1, 1, none⟩ = some (.int .i64 d) ∧ wA.cell? ⟨s + 1, 2, none⟩ = some (.int .i64 e) := by
  rw [k.cell (by simp; omega), k.cell (by simp; omega), k.cell (by simp; omega), k.cell (by simp; omega), k.cell (by simp; omega)]
  exact h
theorem five_kept_drew {W wA : World} {s : Nat} {a b c d e : Int} (k : Below W.drew.heap.size W.drew wA)
    (h : W.cell? ⟨s, 0, none⟩ = some (.int .i64 a) ∧ W.cell? ⟨s, 1, none⟩ = some (.int .i64 b) ∧ W.cell? ⟨s + 1, 0, none⟩ = some (.int .i64 c) ∧ W.cell? ⟨s + 1, 1, none⟩ = some (.int .i64 d) ∧ W.cell? ⟨s + 1, 2, none⟩ = some (.int .i64 e)) (hs : s + 1 < W.heap.size) :
    wA.cell? ⟨s, 0, none⟩ = some (.int .i64 a) ∧ wA.cell? ⟨s, 1, none⟩ = some (.int .i64 b) ∧ wA.cell? ⟨s + 1, 0, none⟩ = some (.int .i64 c) ∧ wA.cell? ⟨s + 1, 1, none⟩ = some (.int .i64 d) ∧ wA.cell? ⟨s + 1, 2, none⟩ = some (.int .i64 e) :=
  five_kept (W := W.drew) k h hs
theorem five_new (w : World) (a b c d e : Int) (T1 T2 : TypeId) :
    ((w.alloc (.cells #[.int .i64 a, .int .i64 b] T1)).alloc (.cells #[.int .i64 c, .int .i64 d, .int .i64 e] T2)).cell? ⟨w.heap.size, 0, none⟩ = some (.int .i64 a) ∧ ((w.alloc (.cells #[.int .i64 a, .int .i64 b] T1)).alloc (.cells #[.int .i64 c, .int .i64 d, .int .i64 e] T2)).cell? ⟨w.heap.size, 1, none⟩ = some (.int .i64 b) ∧ ((w.alloc (.cells #[.int .i64 a, .int .i64 b] T1)).alloc (.cells #[.int .i64 c, .int .i64 d, .int .i64 e] T2)).cell? ⟨w.heap.size + 1, 0, none⟩ = some (.int .i64 c) ∧ ((w.alloc (.cells #[.int .i64 a, .int .i64 b] T1)).alloc (.cells #[.int .i64 c, .int .i64 d, .int .i64 e] T2)).cell? ⟨w.heap.size + 1, 1, none⟩ = some (.int .i64 d) ∧ ((w.alloc (.cells #[.int .i64 a, .int .i64 b] T1)).alloc (.cells #[.int .i64 c, .int .i64 d, .int .i64 e] T2)).cell? ⟨w.heap.size + 1, 2, none⟩ = some (.int .i64 e) := by
  have t0 := (Tw.newAt (w := w) (x := a) (y := b) (T := T1) rfl).old (o := .cells #[.int .i64 c, .int .i64 d, .int .i64 e] T2)
  refine ⟨t0.c0, t0.c1, ?_, ?_, ?_⟩
  all_goals
    have h := World.cell?_alloc_mark (w.alloc (.cells #[.int .i64 a, .int .i64 b] T1)) #[.int .i64 c, .int .i64 d, .int .i64 e] T2 (0, 0)
    have hz : (w.alloc (.cells #[.int .i64 a, .int .i64 b] T1)).heap.size = w.heap.size + 1 := by simp
    rw [hz] at h
    rw [h]
    rfl
theorem Five.next {w w' : World} {s : Nat} {a b c d e : Int} (h : Five w s a b c d e) (k : Below w.heap.size w w') (hs : s + 1 < w.heap.size) : Five w' s a b c d e := five_kept k h hs
set_option maxRecDepth 100000 in
set_option maxHeartbeats 4000000 in
theorem impl_Valid_aux (K1 K2 R1 R2 : Int) (T c : Nat) (P1 P2 S1 S2 A1 A2 : Int) (s : ByteArray) (w : World) (ht : Tab w) (hT : T < 2549)
    (cc : ∀ w, Tab w → Calls Tryz.prog 81 #[.agg #[.int .i64 R1, .int .i64 R2], .agg #[.int .i64 K1, .int .i64 K2], .string s] w fun e w' => e = .returned (.int .i64 c) ∧ Below w.heap.size w w')
    (cp : ∀ w, Calls Tryz.prog 82 #[.int .i64 c, .agg #[.int .i64 K1, .int .i64 K2]] w fun e w' => e = .returned (.tuple #[.agg #[.int .i64 P1, .int .i64 P2], .bool true]) ∧ Below w.heap.size w w')
    (cs : ∀ w, Calls Tryz.prog 83 #[.agg #[.int .i64 R1, .int .i64 R2], .agg #[.int .i64 P1, .int .i64 P2]] w fun e w' => e = .returned (.tuple #[.agg #[.int .i64 S1, .int .i64 S2], .bool true]) ∧ Below w.heap.size w w')
    (ca : ∀ w, Calls Tryz.prog 84 #[.int .i64 T] w fun e w' => e = .returned (.agg #[.int .i64 A1, .int .i64 A2]) ∧ Below w.heap.size w w') :
    Calls Tryz.prog 65 #[.agg #[.int .i64 K1, .int .i64 K2], .string s, .agg #[.int .i64 R1, .int .i64 R2, .int .i64 T]] w fun e w' => e = .returned (.bool (A1 == S1 && A2 == S2)) ∧ Below w.heap.size w w' := by
  have CC := hidIt cc
  have CP := hidIt cp
  have CS := hidIt cs
  have CA := hidIt ca
  have HT := hidIt ht
  have q0 : ((c : Int) == -1) = false := by simp
  have q1 : ¬ (T : Int) < 0 := by omega
  have q2 : ¬ (2549 : Int) ≤ (T : Int) := by omega
  have z0 : w.heap.size < w.heap.size + 1 + 1 := by omega
  have F0 := hidIt (five_new w K1 K2 R1 R2 T 34 36)
  have B0 := hidIt (((Below.refl w.heap.size w).alloc (Nat.le_refl _) (.cells #[.int .i64 K1, .int .i64 K2] 34)).alloc (by simp) (.cells #[.int .i64 R1, .int .i64 R2, .int .i64 T] 36))
  clear cc cp cs ca ht
  go_enter Tryz.func65, Tryz.ntmps65
  go_wp2_with (fail)
  refine (CC.out _ (HT.out.kept B0.out)).mono ?_
  rintro e w1 ⟨rfl, hb1⟩
  have F1 : Five w1 w.heap.size K1 K2 R1 R2 T := five_kept hb1 F0.out (by simp)
  have B1 := hidIt (below_next B0.out hb1)
  have z1 : w.heap.size + 1 < w1.heap.size := by have := hb1.size; simp at this; omega
  have H1 := hidIt F1
  obtain ⟨a0, a1, a2, a3, a4⟩ := F1
  clear hb1 F0 B0
  go_wp2_with (fail)
  refine (CP.out _).mono ?_
  rintro e w2 ⟨rfl, hb2⟩
  have F2 := H1.out.next hb2 z1
  have B2 := hidIt (below_next B1.out hb2)
  have z2 : w.heap.size + 1 < w2.heap.size := by have := hb2.size; omega
  have z3 : w.heap.size + 1 < w2.heap.size + 1 := by omega
  have z4 : ¬ w.heap.size + 1 = w2.heap.size := by omega
  have H2 := hidIt F2
  obtain ⟨b0, b1, b2, b3, b4⟩ := F2
  clear hb2 B1 H1 a0 a1 a2 a3 a4
  go_wp2_with (fail)
  refine (CS.out _).mono ?_
  rintro e w3 ⟨rfl, hb3⟩
  have F3 : Five w3 w.heap.size K1 K2 R1 R2 T := (H2.out.next ((Below.refl w2.heap.size w2).alloc (Nat.le_refl _) _) z2).next hb3 (by simp; omega)
  have B3 := hidIt (below_step B2.out hb3)
  have z5 : w.heap.size + 1 < w3.heap.size := by have := hb3.size; simp at this; omega
  clear hb3 B2 H2 b0 b1 b2 b3 b4 z2 z3 z4
  have z6 : w.heap.size + 1 < w3.heap.size + 1 := by omega
  have z7 : ¬ w.heap.size + 1 = w3.heap.size := by omega
  go_upto_region 6 with fail
  have FZ : Five (w3.alloc (.cells #[.int .i64 S1, .int .i64 S2] 34)) w.heap.size K1 K2 R1 R2 T := F3.next ((Below.refl w3.heap.size w3).alloc (Nat.le_refl _) _) z5
  have SZ := Tw.newAt (w := w3) (x := S1) (y := S2) (T := 34) rfl
  have BZ := hidIt (below_old (o := .cells #[.int .i64 S1, .int .i64 S2] 34) B3.out)
  clear F3 B3 z6 z7
  generalize w3.alloc (.cells #[.int .i64 S1, .int .i64 S2] 34) = wz at FZ SZ BZ ⊢
  generalize w3.heap.size = bS at SZ ⊢
  have HS := hidIt SZ
  have m0 := FZ.2.2.2.2
  have m1 := SZ.c0
  have m2 := SZ.c1
  have m3 := SZ.lt
  clear FZ SZ
  have hp : (A1 = S1 ∧ A2 = S2) ∨ (A1 = S1 ∧ (A2 == S2) = false) ∨ (A1 == S1) = false := by
    by_cases h1 : A1 = S1
    · by_cases h2 : A2 = S2
      · exact .inl ⟨h1, h2⟩
      · exact .inr (.inl ⟨h1, by simpa using h2⟩)
    · exact .inr (.inr (by simpa using h1))
  rcases hp with ⟨rfl, rfl⟩ | ⟨rfl, hp⟩ | hp
  all_goals
   go_region_with (go_at_call 84; refine (CA.out _).mono ?_; rintro e w4 ⟨rfl, hb4⟩; have B4 := hidIt (below_next (Below.drew BZ.out) hb4); have n1 := (Tw.next (w := wz.drew) ⟨HS.out.lt, HS.out.c0, HS.out.c1⟩ hb4).c0; have n2 := (Tw.next (w := wz.drew) ⟨HS.out.lt, HS.out.c0, HS.out.c1⟩ hb4).c1; clear hb4)
  all_goals
    go_wp2_with (fail)
    go_ret
    refine ⟨?_, B4.out⟩
    first
      | (rw [show (A1 == A1 && A2 == A2) = true from by simp]; rfl)
      | (rw [show (A1 == A1 && A2 == S2) = false from by simp [hp]]; rfl)
      | (rw [show (A1 == S1 && A2 == S2) = false from by simp [hp]]; rfl)
set_option maxRecDepth 100000 in
set_option maxHeartbeats 4000000 in
theorem impl_Valid_no (K1 K2 R1 R2 T c : Int) (s : ByteArray) (w : World) (ht : Tab w) (h : c = -1 ∨ ((c == -1) = false ∧ T < 0) ∨ ((c == -1) = false ∧ ¬ T < 0 ∧ (2549 : Int) ≤ T))
    (cc : ∀ w, Tab w → Calls Tryz.prog 81 #[.agg #[.int .i64 R1, .int .i64 R2], .agg #[.int .i64 K1, .int .i64 K2], .string s] w fun e w' => e = .returned (.int .i64 c) ∧ Below w.heap.size w w') :
    Calls Tryz.prog 65 #[.agg #[.int .i64 K1, .int .i64 K2], .string s, .agg #[.int .i64 R1, .int .i64 R2, .int .i64 T]] w fun e w' => e = .returned (.bool false) ∧ Below w.heap.size w w' := by
  have CC := hidIt cc
  have HT := hidIt ht
  have z0 : w.heap.size < w.heap.size + 1 + 1 := by omega
  have F0 := hidIt (five_new w K1 K2 R1 R2 T 34 36)
  have B0 := hidIt (((Below.refl w.heap.size w).alloc (Nat.le_refl _) (.cells #[.int .i64 K1, .int .i64 K2] 34)).alloc (by simp) (.cells #[.int .i64 R1, .int .i64 R2, .int .i64 T] 36))
  clear cc ht
  rcases h with rfl | ⟨q0, q1⟩ | ⟨q0, q1, q2⟩
  all_goals
    go_enter Tryz.func65, Tryz.ntmps65
    go_wp2_with (fail)
    refine (CC.out _ (HT.out.kept B0.out)).mono ?_
    rintro e w1 ⟨rfl, hb1⟩
    have F1 : Five w1 w.heap.size K1 K2 R1 R2 T := five_kept hb1 F0.out (by simp)
    have B1 := hidIt (below_next B0.out hb1)
    have z1 : w.heap.size + 1 < w1.heap.size := by have := hb1.size; simp at this; omega
    obtain ⟨a0, a1, a2, a3, a4⟩ := F1
    clear hb1 F0 B0
    go_wp2_with (fail)
    go_ret
    exact ⟨rfl, B1.out⟩
set_option maxRecDepth 100000 in
set_option maxHeartbeats 8000000 in
theorem spec_Valid_aux (K1 K2 R1 R2 : Int) (T c : Nat) (P1 P2 S1 S2 A1 A2 : Int) (s : ByteArray) (w : World) (hT : T < 2549)
    (ck : ∀ w, Calls Tryz.prog 23 #[.agg #[.int .i64 K1, .int .i64 K2]] w fun e w' => e = .returned (.bool true) ∧ Below w.heap.size w w')
    (cr : ∀ w, Calls Tryz.prog 23 #[.agg #[.int .i64 R1, .int .i64 R2]] w fun e w' => e = .returned (.bool true) ∧ Below w.heap.size w w')
    (cc : ∀ w, Calls Tryz.prog 44 #[.agg #[.int .i64 R1, .int .i64 R2], .agg #[.int .i64 K1, .int .i64 K2], .string s] w fun e w' => e = .returned (.int .i64 c) ∧ Below w.heap.size w w')
    (cp : ∀ w, Calls Tryz.prog 41 #[.int .i64 c, .agg #[.int .i64 K1, .int .i64 K2]] w fun e w' => e = .returned (.agg #[.int .i64 P1, .int .i64 P2]) ∧ Below w.heap.size w w')
    (cs : ∀ w, Calls Tryz.prog 43 #[.agg #[.int .i64 R1, .int .i64 R2], .agg #[.int .i64 P1, .int .i64 P2]] w fun e w' => e = .returned (.agg #[.int .i64 S1, .int .i64 S2]) ∧ Below w.heap.size w w')
    (ca : ∀ w, Calls Tryz.prog 41 #[.int .i64 T, .agg #[.int .i64 2791, .int .i64 6375]] w fun e w' => e = .returned (.agg #[.int .i64 A1, .int .i64 A2]) ∧ Below w.heap.size w w') :
    Calls Tryz.prog 27 #[.agg #[.int .i64 K1, .int .i64 K2], .string s, .agg #[.int .i64 R1, .int .i64 R2, .int .i64 T]] w fun e w' => e = .returned (.bool (A1 == S1 && A2 == S2)) ∧ Below w.heap.size w w' := by
  have CK := hidIt ck
  have CR := hidIt cr
  have CC := hidIt cc
  have CP := hidIt cp
  have CS := hidIt cs
  have CA := hidIt ca
  have q1 : (0 : Int) ≤ (T : Int) := by omega
  have q2 : (T : Int) ≤ 2548 := by omega
  have z0 : w.heap.size < w.heap.size + 1 + 1 := by omega
  have F0 := hidIt (five_new w K1 K2 R1 R2 T 34 36)
  have B0 := hidIt (((Below.refl w.heap.size w).alloc (Nat.le_refl _) (.cells #[.int .i64 K1, .int .i64 K2] 34)).alloc (by simp) (.cells #[.int .i64 R1, .int .i64 R2, .int .i64 T] 36))
  clear ck cr cc cp cs ca
  go_enter Tryz.func27, Tryz.ntmps27
  go_wp2_with (fail)
  refine (CK.out _).mono ?_
  rintro e w1 ⟨rfl, hb1⟩
  have F1 : Five w1 w.heap.size K1 K2 R1 R2 T := five_kept hb1 F0.out (by simp)
  have B1 := hidIt (below_next B0.out hb1)
  have z1 : w.heap.size + 1 < w1.heap.size := by have := hb1.size; simp at this; omega
  have H1 := hidIt F1
  obtain ⟨a0, a1, a2, a3, a4⟩ := F1
  clear hb1 F0 B0
  go_wp2_with (fail)
  refine (CR.out _).mono ?_
  rintro e w2 ⟨rfl, hb2⟩
  have F2 := H1.out.next hb2 z1
  have B2 := hidIt (below_next B1.out hb2)
  have z2 : w.heap.size + 1 < w2.heap.size := by have := hb2.size; omega
  obtain ⟨f0, f1, f2, f3, f4⟩ := F2
  clear hb2 B1 H1 a0 a1 a2 a3 a4
  go_wp2_with (first | (go_at_call 40; go_in) | fail)
  go_upto_region 3 with fail
  have hp : (A1 = S1 ∧ A2 = S2) ∨ (A1 = S1 ∧ (A2 == S2) = false) ∨ (A1 == S1) = false := by
    by_cases h1 : A1 = S1
    · by_cases h2 : A2 = S2
      · exact .inl ⟨h1, h2⟩
      · exact .inr (.inl ⟨h1, by simpa using h2⟩)
    · exact .inr (.inr (by simpa using h1))
  rcases hp with ⟨rfl, rfl⟩ | ⟨rfl, hp⟩ | hp
  all_goals
   go_region_held3 (fun w' => w'.cell? ⟨w.heap.size, 0, none⟩ = some (.int .i64 K1) ∧ w'.cell? ⟨w.heap.size, 1, none⟩ = some (.int .i64 K2) ∧ w'.cell? ⟨w.heap.size + 1, 0, none⟩ = some (.int .i64 R1) ∧ w'.cell? ⟨w.heap.size + 1, 1, none⟩ = some (.int .i64 R2) ∧ w'.cell? ⟨w.heap.size + 1, 2, none⟩ = some (.int .i64 T))
    (first | assumption | exact ⟨f0, f1, f2, f3, f4⟩ | (with_reducible refine five_kept hbE (by assumption) ?_; omega) | (with_reducible refine five_kept hbD (by assumption) ?_; omega) | (with_reducible refine five_kept hbC (by assumption) ?_; omega) | (with_reducible refine five_kept hbB (by assumption) ?_; omega) | (with_reducible refine five_kept_drew hbA (by assumption) ?_; omega) | (with_reducible refine five_kept_drew hbA ⟨f0, f1, f2, f3, f4⟩ ?_; omega) | go_keep)
    (first
      | (go_at_call 42; refine (spec_Base _).mono ?_; rintro e wA ⟨rfl, hbA⟩; have zA : w2.heap.size ≤ wA.heap.size := hbA.size; have bA := below_next (w0 := w) (Below.drew B2.out) hbA)
      | (go_at_call 41; (with_reducible refine (CA.out _).mono ?_); rintro e wB ⟨rfl, hbB⟩; have zB := hbB.size; have bB := below_next (w0 := w) bA hbB)
      | (go_at_call 44; refine (CC.out _).mono ?_; rintro e wC ⟨rfl, hbC⟩; have zC := hbC.size; have bC := below_next (w0 := w) bB hbC)
      | (go_at_call 41; (with_reducible refine (CP.out _).mono ?_); rintro e wD ⟨rfl, hbD⟩; have zD := hbD.size; have bD := below_next (w0 := w) bC hbD)
      | (go_at_call 43; refine (CS.out _).mono ?_; rintro e wE ⟨rfl, hbE⟩; have zE := hbE.size; have bE := below_next (w0 := w) bD hbE))
  all_goals
    go_wp2_with (fail)
    go_ret
    refine ⟨?_, bE⟩
    first
      | (rw [show (A1 == A1 && A2 == A2) = true from by simp]; rfl)
      | (rw [show (A1 == A1 && A2 == S2) = false from by simp [hp]]; rfl)
      | (rw [show (A1 == S1 && A2 == S2) = false from by simp [hp]]; rfl)
end Go.Proofs.YtmdlgogpgedgnaaGreatDoor.Sg
