/-
  Valid of the program and of the specification: is the base, T times, R and the challenge times the key?
  Signed of the specification; two Sigs held against one another.
  Valid: both answer alike, whatever the key, the text and the Sig.
  Schnorr, in natural numbers: what is signed is valid, and with no other number.
  Valid, in one plain function of any numbers and any text: both answer it.
-/
import Derived.Test.YtciikondckoboaaDoorBun1
import Derived.Test.YtciikondckoboaaDoorSignK
import Derived.Test.YtciikondckoboaaDoorLawD
import Derived.Deep.RegionHeld3
import Derived.Laws.StructEq
import Derived.Test.YtciikondckoboaaDoorCurveAll
namespace Go.Proofs.YtciikondckoboaaDoor.Sg
open Go.ChangeShapes Go.WideShapes Go.ChangeAt Go.RowKit
open Cv Cu
/-- Five cells: two of a block, three of the next one. -/
def Five (w : World) (s : Nat) (a b c d e : Int) : Prop := w.cell? ⟨s, 0, none⟩ = some (.int .i64 a) ∧ w.cell? ⟨s, 1, none⟩ = some (.int .i64 b) ∧ w.cell? ⟨s + 1, 0, none⟩ = some (.int .i64 c) ∧ w.cell? ⟨s + 1, 1, none⟩ = some (.int .i64 d) ∧ w.cell? ⟨s + 1, 2, none⟩ = some (.int .i64 e)
theorem five_kept {W wA : World} {s : Nat} {a b c d e : Int} (k : Below W.heap.size W wA)
    (h : W.cell? ⟨s, 0, none⟩ = some (.int .i64 a) ∧ W.cell? ⟨s, 1, none⟩ = some (.int .i64 b) ∧ W.cell? ⟨s + 1, 0, none⟩ = some (.int .i64 c) ∧ W.cell? ⟨s + 1, 1, none⟩ = some (.int .i64 d) ∧ W.cell? ⟨s + 1, 2, none⟩ = some (.int .i64 e)) (hs : s + 1 < W.heap.size) :
    wA.cell? ⟨s, 0, none⟩ = some (.int .i64 a) ∧ wA.cell? ⟨s, 1, none⟩ = some (.int .i64 b) ∧ wA.cell? ⟨s + 1, 0, none⟩ = some (.int .i64 c) ∧ wA.cell? ⟨s + 1, 1, none⟩ = some (.int .i64 d) ∧ wA.cell? ⟨s + 1, 2, none⟩ = some (.int .i64 e) := by
  rw [k.cell (by simp; omega), k.cell (by simp; omega), k.cell (by simp; omega), k.cell (by simp; omega), k.cell (by simp; omega)]
  exact h
theorem five_kept_drew {W wA : World} {s : Nat} {a b c d e : Int} (k : Below W.drew.heap.size W.drew wA)
    (h : W.cell? ⟨s, 0, none⟩ = some (.int .i64 a) ∧ W.cell? ⟨s, 1, none⟩ = some (.int .i64 b) ∧ W.cell? ⟨s + 1, 0, none⟩ = some (.int .i64 c) ∧ W.cell? ⟨s + 1, 1, none⟩ = some (.int .i64 d) ∧ W.cell? ⟨s + 1, 2, none⟩ = some (.int .i64 e)) (hs : s + 1 < W.heap.size) :
    wA.cell? ⟨s, 0, none⟩ = some (.int .i64 a) ∧ wA.cell? ⟨s, 1, none⟩ = some (.int .i64 b) ∧ wA.cell? ⟨s + 1, 0, none⟩ = some (.int .i64 c) ∧ wA.cell? ⟨s + 1, 1, none⟩ = some (.int .i64 d) ∧ wA.cell? ⟨s + 1, 2, none⟩ = some (.int .i64 e) :=
  five_kept (W := W.drew) k h hs
theorem five_new (w : World) (a b c d e : Int) (T1 T2 : TypeId) :
    ((w.alloc (.cells #[.int .i64 a, .int .i64 b] T1)).alloc (.cells #[.int .i64 c, .int .i64 d, .int .i64 e] T2)).cell? ⟨w.heap.size, 0, none⟩ = some (.int .i64 a) ∧ ((w.alloc (.cells #[.int .i64 a, .int .i64 b] T1)).alloc (.cells #[.int .i64 c, .int .i64 d, .int .i64 e] T2)).cell? ⟨w.heap.size, 1, none⟩ = some (.int .i64 b) ∧ ((w.alloc (.cells #[.int .i64 a, .int .i64 b] T1)).alloc (.cells #[.int .i64 c, .int .i64 d, .int .i64 e] T2)).cell? ⟨w.heap.size + 1, 0, none⟩ = some (.int .i64 c) ∧ ((w.alloc (.cells #[.int .i64 a, .int .i64 b] T1)).alloc (.cells #[.int .i64 c, .int .i64 d, .int .i64 e] T2)).cell? ⟨w.heap.size + 1, 1, none⟩ = some (.int .i64 d) ∧ ((w.alloc (.cells #[.int .i64 a, .int .i64 b] T1)).alloc (.cells #[.int .i64 c, .int .i64 d, .int .i64 e] T2)).cell? ⟨w.heap.size + 1, 2, none⟩ = some (.int .i64 e) := by
  have t0 := (Tw.newAt (w := w) (x := a) (y := b) (T := T1) rfl).old (o := .cells #[.int .i64 c, .int .i64 d, .int .i64 e] T2)
  refine ⟨t0.c0, t0.c1, ?_, ?_, ?_⟩
  all_goals
    have h := World.cell?_alloc_mark (w.alloc (.cells #[.int .i64 a, .int .i64 b] T1)) #[.int .i64 c, .int .i64 d, .int .i64 e] T2 (0, 0)
    have hz : (w.alloc (.cells #[.int .i64 a, .int .i64 b] T1)).heap.size = w.heap.size + 1 := by simp
    rw [hz] at h
    rw [h]
    rfl
theorem Five.next {w w' : World} {s : Nat} {a b c d e : Int} (h : Five w s a b c d e) (k : Below w.heap.size w w') (hs : s + 1 < w.heap.size) : Five w' s a b c d e := five_kept k h hs
set_option maxRecDepth 100000 in
set_option maxHeartbeats 4000000 in
theorem impl_Valid_aux (K1 K2 R1 R2 : Int) (T c : Nat) (P1 P2 S1 S2 A1 A2 : Int) (s : ByteArray) (w : World) (ht : Tab w) (hT : T < 2549)
    (cc : ∀ w, Tab w → Calls Tryd.prog 16 #[.agg #[.int .i64 R1, .int .i64 R2], .agg #[.int .i64 K1, .int .i64 K2], .string s] w fun e w' => e = .returned (.int .i64 c) ∧ Below w.heap.size w w')
    (cp : ∀ w, Calls Tryd.prog 38 #[.int .i64 c, .agg #[.int .i64 K1, .int .i64 K2]] w fun e w' => e = .returned (.tuple #[.agg #[.int .i64 P1, .int .i64 P2], .bool true]) ∧ Below w.heap.size w w')
    (cs : ∀ w, Calls Tryd.prog 39 #[.agg #[.int .i64 R1, .int .i64 R2], .agg #[.int .i64 P1, .int .i64 P2]] w fun e w' => e = .returned (.tuple #[.agg #[.int .i64 S1, .int .i64 S2], .bool true]) ∧ Below w.heap.size w w')
    (ca : ∀ w, Calls Tryd.prog 40 #[.int .i64 T] w fun e w' => e = .returned (.agg #[.int .i64 A1, .int .i64 A2]) ∧ Below w.heap.size w w') :
    Calls Tryd.prog 14 #[.agg #[.int .i64 K1, .int .i64 K2], .string s, .agg #[.int .i64 R1, .int .i64 R2, .int .i64 T]] w fun e w' => e = .returned (.bool (A1 == S1 && A2 == S2)) ∧ Below w.heap.size w w' := by
  have CC := hidIt cc
  have CP := hidIt cp
  have CS := hidIt cs
  have CA := hidIt ca
  have HT := hidIt ht
  have q0 : ((c : Int) == -1) = false := by simp
  have q1 : ¬ (T : Int) < 0 := by omega
  have q2 : ¬ (2549 : Int) ≤ (T : Int) := by omega
  have z0 : w.heap.size < w.heap.size + 1 + 1 := by omega
  have F0 := hidIt (five_new w K1 K2 R1 R2 T 27 29)
  have B0 := hidIt (((Below.refl w.heap.size w).alloc (Nat.le_refl _) (.cells #[.int .i64 K1, .int .i64 K2] 27)).alloc (by simp) (.cells #[.int .i64 R1, .int .i64 R2, .int .i64 T] 29))
  clear cc cp cs ca ht
  go_enter Tryd.func14, Tryd.ntmps14
  go_wp2_with (fail)
  refine (CC.out _ (HT.out.kept B0.out)).mono ?_
  rintro e w1 ⟨rfl, hb1⟩
  have F1 : Five w1 w.heap.size K1 K2 R1 R2 T := five_kept hb1 F0.out (by simp)
  have B1 := hidIt (below_next B0.out hb1)
  have z1 : w.heap.size + 1 < w1.heap.size := by have := hb1.size; simp at this; omega
  have H1 := hidIt F1
  obtain ⟨a0, a1, a2, a3, a4⟩ := F1
  clear hb1 F0 B0
  go_wp2_with (fail)
  refine (CP.out _).mono ?_
  rintro e w2 ⟨rfl, hb2⟩
  have F2 := H1.out.next hb2 z1
  have B2 := hidIt (below_next B1.out hb2)
  have z2 : w.heap.size + 1 < w2.heap.size := by have := hb2.size; omega
  have z3 : w.heap.size + 1 < w2.heap.size + 1 := by omega
  have z4 : ¬ w.heap.size + 1 = w2.heap.size := by omega
  have H2 := hidIt F2
  obtain ⟨b0, b1, b2, b3, b4⟩ := F2
  clear hb2 B1 H1 a0 a1 a2 a3 a4
  go_wp2_with (fail)
  refine (CS.out _).mono ?_
  rintro e w3 ⟨rfl, hb3⟩
  have F3 : Five w3 w.heap.size K1 K2 R1 R2 T := (H2.out.next ((Below.refl w2.heap.size w2).alloc (Nat.le_refl _) _) z2).next hb3 (by simp; omega)
  have B3 := hidIt (below_step B2.out hb3)
  have z5 : w.heap.size + 1 < w3.heap.size := by have := hb3.size; simp at this; omega
  clear hb3 B2 H2 b0 b1 b2 b3 b4 z2 z3 z4
  have z6 : w.heap.size + 1 < w3.heap.size + 1 := by omega
  have z7 : ¬ w.heap.size + 1 = w3.heap.size := by omega
  go_upto_region 6 with fail
  have FZ : Five (w3.alloc (.cells #[.int .i64 S1, .int .i64 S2] 27)) w.heap.size K1 K2 R1 R2 T := F3.next ((Below.refl w3.heap.size w3).alloc (Nat.le_refl _) _) z5
  have SZ := Tw.newAt (w := w3) (x := S1) (y := S2) (T := 27) rfl
  have BZ := hidIt (below_old (o := .cells #[.int .i64 S1, .int .i64 S2] 27) B3.out)
  clear F3 B3 z6 z7
  generalize w3.alloc (.cells #[.int .i64 S1, .int .i64 S2] 27) = wz at FZ SZ BZ ⊢
  generalize w3.heap.size = bS at SZ ⊢
  have HS := hidIt SZ
  have m0 := FZ.2.2.2.2
  have m1 := SZ.c0
  have m2 := SZ.c1
  have m3 := SZ.lt
  clear FZ SZ
  have hp : (A1 = S1 ∧ A2 = S2) ∨ (A1 = S1 ∧ (A2 == S2) = false) ∨ (A1 == S1) = false := by
    by_cases h1 : A1 = S1
    · by_cases h2 : A2 = S2
      · exact .inl ⟨h1, h2⟩
      · exact .inr (.inl ⟨h1, by simpa using h2⟩)
    · exact .inr (.inr (by simpa using h1))
  rcases hp with ⟨rfl, rfl⟩ | ⟨rfl, hp⟩ | hp
  all_goals
   go_region_with (go_at_call 40; refine (CA.out _).mono ?_; rintro e w4 ⟨rfl, hb4⟩; have B4 := hidIt (below_next (Below.drew BZ.out) hb4); have n1 := (Tw.next (w := wz.drew) ⟨HS.out.lt, HS.out.c0, HS.out.c1⟩ hb4).c0; have n2 := (Tw.next (w := wz.drew) ⟨HS.out.lt, HS.out.c0, HS.out.c1⟩ hb4).c1; clear hb4)
  all_goals
    go_wp2_with (fail)
    go_ret
    refine ⟨?_, B4.out⟩
    first
      | (rw [show (A1 == A1 && A2 == A2) = true from by simp]; rfl)
      | (rw [show (A1 == A1 && A2 == S2) = false from by simp [hp]]; rfl)
      | (rw [show (A1 == S1 && A2 == S2) = false from by simp [hp]]; rfl)
set_option maxRecDepth 100000 in
set_option maxHeartbeats 4000000 in
theorem impl_Valid_no (K1 K2 R1 R2 T c : Int) (s : ByteArray) (w : World) (ht : Tab w) (h : c = -1 ∨ ((c == -1) = false ∧ T < 0) ∨ ((c == -1) = false ∧ ¬ T < 0 ∧ (2549 : Int) ≤ T))
    (cc : ∀ w, Tab w → Calls Tryd.prog 16 #[.agg #[.int .i64 R1, .int .i64 R2], .agg #[.int .i64 K1, .int .i64 K2], .string s] w fun e w' => e = .returned (.int .i64 c) ∧ Below w.heap.size w w') :
    Calls Tryd.prog 14 #[.agg #[.int .i64 K1, .int .i64 K2], .string s, .agg #[.int .i64 R1, .int .i64 R2, .int .i64 T]] w fun e w' => e = .returned (.bool false) ∧ Below w.heap.size w w' := by
  have CC := hidIt cc
  have HT := hidIt ht
  have z0 : w.heap.size < w.heap.size + 1 + 1 := by omega
  have F0 := hidIt (five_new w K1 K2 R1 R2 T 27 29)
  have B0 := hidIt (((Below.refl w.heap.size w).alloc (Nat.le_refl _) (.cells #[.int .i64 K1, .int .i64 K2] 27)).alloc (by simp) (.cells #[.int .i64 R1, .int .i64 R2, .int .i64 T] 29))
  clear cc ht
  rcases h with rfl | ⟨q0, q1⟩ | ⟨q0, q1, q2⟩
  all_goals
    go_enter Tryd.func14, Tryd.ntmps14
    go_wp2_with (fail)
    refine (CC.out _ (HT.out.kept B0.out)).mono ?_
    rintro e w1 ⟨rfl, hb1⟩
    have F1 : Five w1 w.heap.size K1 K2 R1 R2 T := five_kept hb1 F0.out (by simp)
    have B1 := hidIt (below_next B0.out hb1)
    have z1 : w.heap.size + 1 < w1.heap.size := by have := hb1.size; simp at this; omega
    obtain ⟨a0, a1, a2, a3, a4⟩ := F1
    clear hb1 F0 B0
    go_wp2_with (fail)
    go_ret
    exact ⟨rfl, B1.out⟩
set_option maxRecDepth 100000 in
set_option maxHeartbeats 8000000 in
theorem spec_Valid_aux (K1 K2 R1 R2 : Int) (T c : Nat) (P1 P2 S1 S2 A1 A2 : Int) (s : ByteArray) (w : World) (hT : T < 2549)
    (ck : ∀ w, Calls Tryd.prog 29 #[.agg #[.int .i64 K1, .int .i64 K2]] w fun e w' => e = .returned (.bool true) ∧ Below w.heap.size w w')
    (cr : ∀ w, Calls Tryd.prog 29 #[.agg #[.int .i64 R1, .int .i64 R2]] w fun e w' => e = .returned (.bool true) ∧ Below w.heap.size w w')
    (cc : ∀ w, Calls Tryd.prog 59 #[.agg #[.int .i64 R1, .int .i64 R2], .agg #[.int .i64 K1, .int .i64 K2], .string s] w fun e w' => e = .returned (.int .i64 c) ∧ Below w.heap.size w w')
    (cp : ∀ w, Calls Tryd.prog 50 #[.int .i64 c, .agg #[.int .i64 K1, .int .i64 K2]] w fun e w' => e = .returned (.agg #[.int .i64 P1, .int .i64 P2]) ∧ Below w.heap.size w w')
    (cs : ∀ w, Calls Tryd.prog 58 #[.agg #[.int .i64 R1, .int .i64 R2], .agg #[.int .i64 P1, .int .i64 P2]] w fun e w' => e = .returned (.agg #[.int .i64 S1, .int .i64 S2]) ∧ Below w.heap.size w w')
    (ca : ∀ w, Calls Tryd.prog 50 #[.int .i64 T, .agg #[.int .i64 2791, .int .i64 6375]] w fun e w' => e = .returned (.agg #[.int .i64 A1, .int .i64 A2]) ∧ Below w.heap.size w w') :
    Calls Tryd.prog 33 #[.agg #[.int .i64 K1, .int .i64 K2], .string s, .agg #[.int .i64 R1, .int .i64 R2, .int .i64 T]] w fun e w' => e = .returned (.bool (A1 == S1 && A2 == S2)) ∧ Below w.heap.size w w' := by
  have CK := hidIt ck
  have CR := hidIt cr
  have CC := hidIt cc
  have CP := hidIt cp
  have CS := hidIt cs
  have CA := hidIt ca
  have q1 : (0 : Int) ≤ (T : Int) := by omega
  have q2 : (T : Int) ≤ 2548 := by omega
  have z0 : w.heap.size < w.heap.size + 1 + 1 := by omega
  have F0 := hidIt (five_new w K1 K2 R1 R2 T 27 29)
  have B0 := hidIt (((Below.refl w.heap.size w).alloc (Nat.le_refl _) (.cells #[.int .i64 K1, .int .i64 K2] 27)).alloc (by simp) (.cells #[.int .i64 R1, .int .i64 R2, .int .i64 T] 29))
  clear ck cr cc cp cs ca
  go_enter Tryd.func33, Tryd.ntmps33
  go_wp2_with (fail)
  refine (CK.out _).mono ?_
  rintro e w1 ⟨rfl, hb1⟩
  have F1 : Five w1 w.heap.size K1 K2 R1 R2 T := five_kept hb1 F0.out (by simp)
  have B1 := hidIt (below_next B0.out hb1)
  have z1 : w.heap.size + 1 < w1.heap.size := by have := hb1.size; simp at this; omega
  have H1 := hidIt F1
  obtain ⟨a0, a1, a2, a3, a4⟩ := F1
  clear hb1 F0 B0
  go_wp2_with (fail)
  refine (CR.out _).mono ?_
  rintro e w2 ⟨rfl, hb2⟩
  have F2 := H1.out.next hb2 z1
  have B2 := hidIt (below_next B1.out hb2)
  have z2 : w.heap.size + 1 < w2.heap.size := by have := hb2.size; omega
  obtain ⟨f0, f1, f2, f3, f4⟩ := F2
  clear hb2 B1 H1 a0 a1 a2 a3 a4
  go_wp2_with (first | (go_at_call 57; go_in) | fail)
  go_upto_region 3 with fail
  have hp : (A1 = S1 ∧ A2 = S2) ∨ (A1 = S1 ∧ (A2 == S2) = false) ∨ (A1 == S1) = false := by
    by_cases h1 : A1 = S1
    · by_cases h2 : A2 = S2
      · exact .inl ⟨h1, h2⟩
      · exact .inr (.inl ⟨h1, by simpa using h2⟩)
    · exact .inr (.inr (by simpa using h1))
  rcases hp with ⟨rfl, rfl⟩ | ⟨rfl, hp⟩ | hp
  all_goals
   go_region_held3 (fun w' => w'.cell? ⟨w.heap.size, 0, none⟩ = some (.int .i64 K1) ∧ w'.cell? ⟨w.heap.size, 1, none⟩ = some (.int .i64 K2) ∧ w'.cell? ⟨w.heap.size + 1, 0, none⟩ = some (.int .i64 R1) ∧ w'.cell? ⟨w.heap.size + 1, 1, none⟩ = some (.int .i64 R2) ∧ w'.cell? ⟨w.heap.size + 1, 2, none⟩ = some (.int .i64 T))
    (first | assumption | exact ⟨f0, f1, f2, f3, f4⟩ | (with_reducible refine five_kept hbE (by assumption) ?_; omega) | (with_reducible refine five_kept hbD (by assumption) ?_; omega) | (with_reducible refine five_kept hbC (by assumption) ?_; omega) | (with_reducible refine five_kept hbB (by assumption) ?_; omega) | (with_reducible refine five_kept_drew hbA (by assumption) ?_; omega) | (with_reducible refine five_kept_drew hbA ⟨f0, f1, f2, f3, f4⟩ ?_; omega) | go_keep)
    (first
      | (go_at_call 51; refine (spec_Base _).mono ?_; rintro e wA ⟨rfl, hbA⟩; have zA : w2.heap.size ≤ wA.heap.size := hbA.size; have bA := below_next (w0 := w) (Below.drew B2.out) hbA)
      | (go_at_call 50; (with_reducible refine (CA.out _).mono ?_); rintro e wB ⟨rfl, hbB⟩; have zB := hbB.size; have bB := below_next (w0 := w) bA hbB)
      | (go_at_call 59; refine (CC.out _).mono ?_; rintro e wC ⟨rfl, hbC⟩; have zC := hbC.size; have bC := below_next (w0 := w) bB hbC)
      | (go_at_call 50; (with_reducible refine (CP.out _).mono ?_); rintro e wD ⟨rfl, hbD⟩; have zD := hbD.size; have bD := below_next (w0 := w) bC hbD)
      | (go_at_call 58; refine (CS.out _).mono ?_; rintro e wE ⟨rfl, hbE⟩; have zE := hbE.size; have bE := below_next (w0 := w) bD hbE))
  all_goals
    go_wp2_with (fail)
    go_ret
    refine ⟨?_, bE⟩
    first
      | (rw [show (A1 == A1 && A2 == A2) = true from by simp]; rfl)
      | (rw [show (A1 == A1 && A2 == S2) = false from by simp [hp]]; rfl)
      | (rw [show (A1 == S1 && A2 == S2) = false from by simp [hp]]; rfl)
end Go.Proofs.YtciikondckoboaaDoor.Sg
namespace Go.Proofs.YtciikondckoboaaDoor.Sg
open Go.ChangeShapes Go.WideShapes Go.ChangeAt Go.RowKit
open Cv Cu
end Go.Proofs.YtciikondckoboaaDoor.Sg
namespace Go.Proofs.YtciikondckoboaaDoor.Sg
open Go.ChangeShapes Go.WideShapes Go.ChangeAt Go.RowKit
open Cv Cu
theorem pr' (p : Nat × Nat) : (p.1, p.2) = p := rfl
theorem ns_lt' {a b : Nat} (h : okN (a, b) = true) (n : Nat) : (ns (a, b) n).1 < 10007 ∧ (ns (a, b) n).2 < 10007 := ok_el (ns_ok h n)
theorem ns_ok' {a b : Nat} (h : okN (a, b) = true) (n : Nat) : okN ((ns (a, b) n).1, (ns (a, b) n).2) = true := by rw [pr']; exact ns_ok h n
set_option maxRecDepth 100000 in
set_option maxHeartbeats 4000000 in
theorem spec_Valid_no1 (K1 K2 R1 R2 T : Int) (s : ByteArray) (w : World) (h : okI K1 K2 = false) :
    Calls Tryd.prog 33 #[.agg #[.int .i64 K1, .int .i64 K2], .string s, .agg #[.int .i64 R1, .int .i64 R2, .int .i64 T]] w fun e w' => e = .returned (.bool false) ∧ Below w.heap.size w w' := by
  have ck := spec_PointOk K1 K2
  rw [h] at ck
  have CK := hidIt ck
  have B0 := hidIt (((Below.refl w.heap.size w).alloc (Nat.le_refl _) (.cells #[.int .i64 K1, .int .i64 K2] 27)).alloc (by simp) (.cells #[.int .i64 R1, .int .i64 R2, .int .i64 T] 29))
  have z0 : w.heap.size < w.heap.size + 1 + 1 := by omega
  clear ck h
  go_enter Tryd.func33, Tryd.ntmps33
  go_wp2_with (fail)
  refine (CK.out _).mono ?_
  rintro e w1 ⟨rfl, hb1⟩
  have B1 := hidIt (below_next B0.out hb1)
  clear hb1
  go_wp2_with (fail)
  go_ret
  exact ⟨rfl, B1.out⟩
set_option maxRecDepth 100000 in
set_option maxHeartbeats 4000000 in
theorem spec_Valid_no2 (K1 K2 R1 R2 T : Int) (s : ByteArray) (w : World) (h : okI K1 K2 = true) (h2 : okI R1 R2 = false) :
    Calls Tryd.prog 33 #[.agg #[.int .i64 K1, .int .i64 K2], .string s, .agg #[.int .i64 R1, .int .i64 R2, .int .i64 T]] w fun e w' => e = .returned (.bool false) ∧ Below w.heap.size w w' := by
  have ck := spec_PointOk K1 K2
  rw [h] at ck
  have CK := hidIt ck
  have cr := spec_PointOk R1 R2
  rw [h2] at cr
  have CR := hidIt cr
  have F0 := hidIt (five_new w K1 K2 R1 R2 T 27 29)
  have B0 := hidIt (((Below.refl w.heap.size w).alloc (Nat.le_refl _) (.cells #[.int .i64 K1, .int .i64 K2] 27)).alloc (by simp) (.cells #[.int .i64 R1, .int .i64 R2, .int .i64 T] 29))
  have z0 : w.heap.size < w.heap.size + 1 + 1 := by omega
  clear ck cr h h2
  go_enter Tryd.func33, Tryd.ntmps33
  go_wp2_with (fail)
  refine (CK.out _).mono ?_
  rintro e w1 ⟨rfl, hb1⟩
  have F1 : Five w1 w.heap.size K1 K2 R1 R2 T := five_kept hb1 F0.out (by simp)
  have B1 := hidIt (below_next B0.out hb1)
  have z1 : w.heap.size + 1 < w1.heap.size := by have := hb1.size; simp at this; omega
  obtain ⟨a0, a1, a2, a3, a4⟩ := F1
  clear hb1
  go_wp2_with (fail)
  refine (CR.out _).mono ?_
  rintro e w2 ⟨rfl, hb2⟩
  have B2 := hidIt (below_next B1.out hb2)
  clear hb2
  go_wp2_with (fail)
  go_ret
  exact ⟨rfl, B2.out⟩
set_option maxRecDepth 100000 in
set_option maxHeartbeats 4000000 in
theorem spec_Valid_no3 (K1 K2 R1 R2 T : Int) (s : ByteArray) (w : World) (h : okI K1 K2 = true) (h2 : okI R1 R2 = true) (h3 : ¬ 0 ≤ T ∨ 0 ≤ T ∧ ¬ T ≤ 2548) :
    Calls Tryd.prog 33 #[.agg #[.int .i64 K1, .int .i64 K2], .string s, .agg #[.int .i64 R1, .int .i64 R2, .int .i64 T]] w fun e w' => e = .returned (.bool false) ∧ Below w.heap.size w w' := by
  have ck := spec_PointOk K1 K2
  rw [h] at ck
  have CK := hidIt ck
  have cr := spec_PointOk R1 R2
  rw [h2] at cr
  have CR := hidIt cr
  have F0 := hidIt (five_new w K1 K2 R1 R2 T 27 29)
  have B0 := hidIt (((Below.refl w.heap.size w).alloc (Nat.le_refl _) (.cells #[.int .i64 K1, .int .i64 K2] 27)).alloc (by simp) (.cells #[.int .i64 R1, .int .i64 R2, .int .i64 T] 29))
  have z0 : w.heap.size < w.heap.size + 1 + 1 := by omega
  clear ck cr h h2
  rcases h3 with h3 | ⟨h3, h4⟩
  all_goals
    (try have h6 : decide (T ≤ 2548) = false := by simpa using h4)
    (try clear h4)
    go_enter Tryd.func33, Tryd.ntmps33
    go_wp2_with (fail)
    refine (CK.out _).mono ?_
    rintro e w1 ⟨rfl, hb1⟩
    have F1 : Five w1 w.heap.size K1 K2 R1 R2 T := five_kept hb1 F0.out (by simp)
    have B1 := hidIt (below_next B0.out hb1)
    have z1 : w.heap.size + 1 < w1.heap.size := by have := hb1.size; simp at this; omega
    have H1 := hidIt F1
    obtain ⟨a0, a1, a2, a3, a4⟩ := F1
    clear hb1
    go_wp2_with (fail)
    refine (CR.out _).mono ?_
    rintro e w2 ⟨rfl, hb2⟩
    have F2 := H1.out.next hb2 z1
    have B2 := hidIt (below_next B1.out hb2)
    have z2 : w.heap.size + 1 < w2.heap.size := by have := hb2.size; omega
    obtain ⟨f0, f1, f2, f3, f4⟩ := F2
    clear hb2 a0 a1 a2 a3 a4
    go_wp2_with (first | (go_at_call 57; go_in) | fail)
    go_ret
    exact ⟨rfl, B2.out⟩
/-- Is it valid? Of two Points, a text and a number from 0 to 2548. -/
def vaN (k1 k2 r1 r2 T : Nat) (s : ByteArray) : Bool := ((ns (2791, 6375) T).1 : Int) == ((adN (r1, r2) ((ns (k1, k2) (chN r1 r2 k1 k2 s)).1, (ns (k1, k2) (chN r1 r2 k1 k2 s)).2)).1 : Int) && ((ns (2791, 6375) T).2 : Int) == ((adN (r1, r2) ((ns (k1, k2) (chN r1 r2 k1 k2 s)).1, (ns (k1, k2) (chN r1 r2 k1 k2 s)).2)).2 : Int)
theorem spec_Valid_yes (k1 k2 r1 r2 T : Nat) (s : ByteArray) (w : World) (hk : okN (k1, k2) = true) (hr : okN (r1, r2) = true) (hT : T < 2549) (hs : s.size ≤ 4611686018427380000) :
    Calls Tryd.prog 33 #[.agg #[.int .i64 k1, .int .i64 k2], .string s, .agg #[.int .i64 r1, .int .i64 r2, .int .i64 T]] w fun e w' => e = .returned (.bool (vaN k1 k2 r1 r2 T s)) ∧ Below w.heap.size w w' := by
  have ck := spec_PointOk k1 k2
  rw [okI_cast, hk] at ck
  have cr := spec_PointOk r1 r2
  rw [okI_cast, hr] at cr
  have bk := ok_le hk
  have br := ok_le hr
  have hc := chN_lt r1 r2 k1 k2 s
  have cc := fun w => l3Challenge_any r1 r2 k1 k2 s w br.1 br.2 bk.1 bk.2 hs
  rw [vaN.eq_1]
  generalize chN r1 r2 k1 k2 s = c at hc cc ⊢
  have cp := fun w => l2Times_any k1 k2 c w hk (by omega)
  have hq := ns_lt' hk c
  have cs := fun w => l2Added_any r1 r2 (ns (k1, k2) c).1 (ns (k1, k2) c).2 w (ok_el hr).1 (ok_el hr).2 hq.1 hq.2
  have ca := fun w => l2Times_any 2791 6375 T w ok_base (by omega)
  generalize ns (2791, 6375) T = A at ca ⊢
  generalize adN (r1, r2) ((ns (k1, k2) c).1, (ns (k1, k2) c).2) = S at cs ⊢
  generalize ns (k1, k2) c = P at cp cs
  exact spec_Valid_aux k1 k2 r1 r2 T c P.1 P.2 S.1 S.2 A.1 A.2 s w hT ck cr cc cp cs ca
theorem impl_Valid_yes (k1 k2 r1 r2 T : Nat) (s : ByteArray) (w : World) (hk : okN (k1, k2) = true) (hr : okN (r1, r2) = true) (hT : T < 2549) (hs : s.size ≤ 4611686018427380000) (ht : Tab w) :
    Calls Tryd.prog 14 #[.agg #[.int .i64 k1, .int .i64 k2], .string s, .agg #[.int .i64 r1, .int .i64 r2, .int .i64 T]] w fun e w' => e = .returned (.bool (vaN k1 k2 r1 r2 T s)) ∧ Below w.heap.size w w' := by
  have hc := chN_lt r1 r2 k1 k2 s
  have cc := fun w t => impl_Challenge_yes r1 r2 k1 k2 s w hr hk (by omega) t
  rw [vaN.eq_1]
  generalize chN r1 r2 k1 k2 s = c at hc cc ⊢
  have hp := ns_ok' hk c
  have cp := fun w => impl_Times_yes c k1 k2 w hk (by omega)
  have cs := fun w => impl_Added_yes r1 r2 (ns (k1, k2) c).1 (ns (k1, k2) c).2 w hr hp
  have ca := fun w => timesBase_any T w (by omega)
  exact impl_Valid_aux k1 k2 r1 r2 T c _ _ _ _ _ _ s w ht hT cc cp cs ca
/-- Both answer alike. -/
theorem valid_both (K1 K2 : Int) (s : ByteArray) (R1 R2 T : Int) (hs : s.size ≤ 4611686018427380000) : ∃ f : Bool,
    (∀ w, Calls Tryd.prog 33 #[.agg #[.int .i64 K1, .int .i64 K2], .string s, .agg #[.int .i64 R1, .int .i64 R2, .int .i64 T]] w fun e w' => e = .returned (.bool f) ∧ Below w.heap.size w w') ∧
    (∀ w, Tab w → Calls Tryd.prog 14 #[.agg #[.int .i64 K1, .int .i64 K2], .string s, .agg #[.int .i64 R1, .int .i64 R2, .int .i64 T]] w fun e w' => e = .returned (.bool f) ∧ Below w.heap.size w w') := by
  by_cases hr : okI R1 R2 = true
  · by_cases hk : okI K1 K2 = true
    · obtain ⟨r1, r2, rfl, rfl, hr1⟩ := okI_nat hr
      obtain ⟨k1, k2, rfl, rfl, hk1⟩ := okI_nat hk
      by_cases hT : 0 ≤ T ∧ T < 2549
      · obtain ⟨t, rfl⟩ := Int.eq_ofNat_of_zero_le hT.1
        exact ⟨vaN k1 k2 r1 r2 t s, fun w => spec_Valid_yes k1 k2 r1 r2 t s w hk1 hr1 (by omega) hs, fun w h => impl_Valid_yes k1 k2 r1 r2 t s w hk1 hr1 (by omega) hs h⟩
      · refine ⟨false, fun w => spec_Valid_no3 k1 k2 r1 r2 T s w hk hr (by omega), fun w h => impl_Valid_no k1 k2 r1 r2 T (chN r1 r2 k1 k2 s) s w h (.inr ?_) (fun w t => impl_Challenge_yes r1 r2 k1 k2 s w hr1 hk1 (by omega) t)⟩
        have hc : (((chN r1 r2 k1 k2 s : Nat) : Int) == -1) = false := by generalize chN r1 r2 k1 k2 s = c; simp
        by_cases h1 : T < 0
        · exact .inl ⟨hc, h1⟩
        · exact .inr ⟨hc, h1, by omega⟩
    · have hk' : okI K1 K2 = false := by simpa using hk
      exact ⟨false, fun w => spec_Valid_no1 K1 K2 R1 R2 T s w hk', fun w h => impl_Valid_no K1 K2 R1 R2 T (-1) s w h (.inl rfl) (fun w _ => impl_Challenge_no R1 R2 K1 K2 s w (.inr ⟨hr, hk'⟩))⟩
  · have hr' : okI R1 R2 = false := by simpa using hr
    refine ⟨false, fun w => ?_, fun w h => impl_Valid_no K1 K2 R1 R2 T (-1) s w h (.inl rfl) (fun w _ => impl_Challenge_no R1 R2 K1 K2 s w (.inl hr'))⟩
    by_cases hk : okI K1 K2 = true
    · exact spec_Valid_no2 K1 K2 R1 R2 T s w hk hr'
    · exact spec_Valid_no1 K1 K2 R1 R2 T s w (by simpa using hk)
end Go.Proofs.YtciikondckoboaaDoor.Sg
namespace Go.Proofs.YtciikondckoboaaDoor.Sg
open Go.ChangeShapes Go.WideShapes Go.ChangeAt Go.RowKit
open Cv Cu
theorem ns_order (q : Nat) : ns (2791, 6375) (2549 * q) = (0, 1) := by
  rw [ns_mul ok_base, show ns (2791, 6375) 2549 = (0, 1) from gen_order, ns_nought]
theorem ns_mod (m : Nat) : ns (2791, 6375) (m % 2549) = ns (2791, 6375) m := by
  have h := ns_add ok_base (2549 * (m / 2549)) (m % 2549)
  rw [ns_order, Nat.div_add_mod] at h
  rw [h]
  exact (nought_ad (ok_el (ns_ok ok_base _))).symm
theorem sg_valid (n : Nat) (s : ByteArray) : ns (2791, 6375) (sgT n s) = adN (sgR n s) (ns (ns (2791, 6375) n) (sgC n s)) := by
  rw [sgT_eq, ns_mod, ns_add ok_base, ← sgR_eq, Nat.mul_comm (sgC n s) n, ns_mul ok_base]
theorem ad_cancel {p d : Nat × Nat} (hp : okN p = true) (hd : okN d = true) (h : adN p d = p) : d = (0, 1) := by
  have h1 : adN (opN p) (adN p d) = adN (opN p) p := by rw [h]
  rw [← ad_assoc (op_ok hp) hp hd, ad_comm (opN p) p, ad_op hp, nought_ad (ok_el hd)] at h1
  exact h1
theorem sg_other (t j : Nat) (hj : j < 2548) : ns (2791, 6375) ((t + 1 + j) % 2549) ≠ ns (2791, 6375) t := by
  rw [ns_mod, Nat.add_assoc, ns_add ok_base]
  intro h
  exact gen_first (1 + j) (by omega) (by omega) (ad_cancel (ns_ok ok_base _) (ns_ok ok_base _) h)
theorem eqB (X Y : Nat × Nat) : ((X.1 : Int) == (Y.1 : Int) && (X.2 : Int) == (Y.2 : Int)) = decide (X = Y) := by
  by_cases h : X = Y
  · subst h; simp
  · rw [decide_eq_false h, Bool.eq_false_iff]
    intro hh
    simp only [Bool.and_eq_true, beq_iff_eq] at hh
    exact h (Prod.ext (by have := hh.1; omega) (by have := hh.2; omega))
theorem va_sg (n T : Nat) (s : ByteArray) : vaN (ns (2791, 6375) n).1 (ns (2791, 6375) n).2 (sgR n s).1 (sgR n s).2 T s = decide (ns (2791, 6375) T = ns (2791, 6375) (sgT n s)) := by
  rw [vaN.eq_1, ← sgC_eq, sg_valid, eqB, pr', pr', pr']
theorem va_yes (n : Nat) (s : ByteArray) : vaN (ns (2791, 6375) n).1 (ns (2791, 6375) n).2 (sgR n s).1 (sgR n s).2 (sgT n s) s = true := by
  rw [va_sg]; exact decide_eq_true rfl
theorem va_no (n j : Nat) (s : ByteArray) (hj : j < 2548) : vaN (ns (2791, 6375) n).1 (ns (2791, 6375) n).2 (sgR n s).1 (sgR n s).2 ((sgT n s + 1 + j) % 2549) s = false := by
  rw [va_sg]; exact decide_eq_false (sg_other _ _ hj)
end Go.Proofs.YtciikondckoboaaDoor.Sg
namespace Go.Proofs.YtciikondckoboaaDoor.Sg
open Go.ChangeShapes Go.WideShapes Go.ChangeAt Go.RowKit
open Cv Cu
def validB (K1 K2 : Int) (s : ByteArray) (R1 R2 T : Int) : Bool :=
  okI R1 R2 && (okI K1 K2 && (decide (0 ≤ T ∧ T < 2549) && vaN K1.toNat K2.toNat R1.toNat R2.toNat T.toNat s))
theorem validB_yes {k1 k2 r1 r2 t : Nat} (s : ByteArray) (hk : okN (k1, k2) = true) (hr : okN (r1, r2) = true) (hT : t < 2549) : validB k1 k2 s r1 r2 t = vaN k1 k2 r1 r2 t s := by
  unfold validB
  rw [okI_cast, hr, okI_cast, hk, decide_eq_true (by omega)]
  rfl
theorem validB_noR {K1 K2 R1 R2 T : Int} {s : ByteArray} (h : okI R1 R2 = false) : validB K1 K2 s R1 R2 T = false := by unfold validB; rw [h, Bool.false_and]
theorem validB_noK {K1 K2 R1 R2 T : Int} {s : ByteArray} (h : okI K1 K2 = false) : validB K1 K2 s R1 R2 T = false := by unfold validB; rw [h, Bool.false_and, Bool.and_false]
theorem validB_noT {K1 K2 R1 R2 T : Int} {s : ByteArray} (h : ¬ (0 ≤ T ∧ T < 2549)) : validB K1 K2 s R1 R2 T = false := by unfold validB; rw [decide_eq_false h, Bool.false_and, Bool.and_false, Bool.and_false]
theorem spec_Valid_any (K1 K2 : Int) (s : ByteArray) (R1 R2 T : Int) (w : World) (hs : s.size ≤ 4611686018427380000) :
    Calls Tryd.prog 33 #[.agg #[.int .i64 K1, .int .i64 K2], .string s, .agg #[.int .i64 R1, .int .i64 R2, .int .i64 T]] w fun e w' => e = .returned (.bool (validB K1 K2 s R1 R2 T)) ∧ Below w.heap.size w w' := by
  by_cases hk : okI K1 K2 = true
  · by_cases hr : okI R1 R2 = true
    · obtain ⟨r1, r2, rfl, rfl, hr1⟩ := okI_nat hr
      obtain ⟨k1, k2, rfl, rfl, hk1⟩ := okI_nat hk
      by_cases hT : 0 ≤ T ∧ T < 2549
      · obtain ⟨t, rfl⟩ := Int.eq_ofNat_of_zero_le hT.1
        rw [validB_yes s hk1 hr1 (by omega)]
        exact spec_Valid_yes k1 k2 r1 r2 t s w hk1 hr1 (by omega) hs
      · rw [validB_noT hT]
        exact spec_Valid_no3 k1 k2 r1 r2 T s w hk hr (by omega)
    · have hr' : okI R1 R2 = false := by simpa using hr
      rw [validB_noR hr']
      exact spec_Valid_no2 K1 K2 R1 R2 T s w hk hr'
  · have hk' : okI K1 K2 = false := by simpa using hk
    rw [validB_noK hk']
    exact spec_Valid_no1 K1 K2 R1 R2 T s w hk'
theorem impl_Valid_any (K1 K2 : Int) (s : ByteArray) (R1 R2 T : Int) (w : World) (h : Tab w) (hs : s.size ≤ 4611686018427380000) :
    Calls Tryd.prog 14 #[.agg #[.int .i64 K1, .int .i64 K2], .string s, .agg #[.int .i64 R1, .int .i64 R2, .int .i64 T]] w fun e w' => e = .returned (.bool (validB K1 K2 s R1 R2 T)) ∧ Below w.heap.size w w' := by
  by_cases hr : okI R1 R2 = true
  · by_cases hk : okI K1 K2 = true
    · obtain ⟨r1, r2, rfl, rfl, hr1⟩ := okI_nat hr
      obtain ⟨k1, k2, rfl, rfl, hk1⟩ := okI_nat hk
      by_cases hT : 0 ≤ T ∧ T < 2549
      · obtain ⟨t, rfl⟩ := Int.eq_ofNat_of_zero_le hT.1
        rw [validB_yes s hk1 hr1 (by omega)]
        exact impl_Valid_yes k1 k2 r1 r2 t s w hk1 hr1 (by omega) hs h
      · rw [validB_noT hT]
        refine impl_Valid_no k1 k2 r1 r2 T (chN r1 r2 k1 k2 s) s w h (.inr ?_) (fun w t => impl_Challenge_yes r1 r2 k1 k2 s w hr1 hk1 (by omega) t)
        have hc : (((chN r1 r2 k1 k2 s : Nat) : Int) == -1) = false := by generalize chN r1 r2 k1 k2 s = c; simp
        by_cases h1 : T < 0
        · exact .inl ⟨hc, h1⟩
        · exact .inr ⟨hc, h1, by omega⟩
    · have hk' : okI K1 K2 = false := by simpa using hk
      rw [validB_noK hk']
      exact impl_Valid_no K1 K2 R1 R2 T (-1) s w h (.inl rfl) (fun w _ => impl_Challenge_no R1 R2 K1 K2 s w (.inr ⟨hr, hk'⟩))
  · have hr' : okI R1 R2 = false := by simpa using hr
    rw [validB_noR hr']
    exact impl_Valid_no K1 K2 R1 R2 T (-1) s w h (.inl rfl) (fun w _ => impl_Challenge_no R1 R2 K1 K2 s w (.inl hr'))
end Go.Proofs.YtciikondckoboaaDoor.Sg
