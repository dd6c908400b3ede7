/-
  A Deed: its cells; DsOf of the specification.
  Times, numbers with a blank, what is sealed, and SealOf of the program.
  What the laws do with a list of Points: szPointS, toPointS, eqPointS, markPointS, heldPointS.
  A Seal (six numbers) and a Deed (a text, a row of Points, a Seal): what the laws do with them: toSeal, eqSeal, szDeed, toDeed, eqDeed.
  What the laws do with a Deed: szDeed, toDeed, eqDeed.
-/
import Derived.Test.YtniadgjckjnfiaaDoorBun1
import Derived.Test.YtniadgjckjnfiaaDoorNameT
import Derived.Test.YtniadgjckjnfiaaDoorNameL
import Derived.Test.YtniadgjckjnfiaaDoorQuiet
import Derived.Test.YtniadgjckjnfiaaDoorSignK
import Derived.Test.YtniadgjckjnfiaaDoorSignU
import Derived.Test.YtniadgjckjnfiaaDoorLawC
import Derived.Deep.RegionHeld3
import Derived.Test.YtniadgjckjnfiaaDoorBoxM
import Derived.Test.YtniadgjckjnfiaaDoorSignW
namespace Go.Proofs.YtniadgjckjnfiaaDoor.Dd
open Go.ChangeShapes Go.WideShapes Go.ChangeAt Go.RowKit
open Cv Cu Sg
open Go.Proofs.YtniadgjckjnfiaaDoor.Pt (Ln lat)
open Go.Proofs.YtniadgjckjnfiaaDoor.Bo (Box Box.new Box.newAt Box.kept Box.alloc Box.put Box.other Box.c Box.drew)
open Go.Proofs.YtniadgjckjnfiaaDoor.Nm (bs okB)
set_option linter.unusedVariables false
/-- The cells of a Deed: its Zone, its Keys, its Seal. -/
abbrev dc (z : ByteArray) (v : Value) (k1 k2 u r1 r2 t : Int) : Array Value := #[.string z, v, .int .i64 k1, .int .i64 k2, .int .i64 u, .int .i64 r1, .int .i64 r2, .int .i64 t]
abbrev dv (z : ByteArray) (v : Value) (k1 k2 u r1 r2 t : Int) : Value := .agg (dc z v k1 k2 u r1 r2 t)
def dsN (z : ByteArray) (a b : Nat) : Nat := hashN (nums (z ++ Sg.blank ++ ptS a b))
def dsB (z : ByteArray) (k1 k2 : Int) : Int := if okB (bs z) && okI k1 k2 then (dsN z k1.toNat k2.toNat : Int) else -1
theorem dsB_no {z : ByteArray} {k1 k2 : Int} (h : okB (bs z) = false ∨ okI k1 k2 = false) : dsB z k1 k2 = -1 := by
  unfold dsB
  rcases h with h | h
  · rw [h]; rfl
  · rw [h, Bool.and_false]; rfl
theorem dsB_yes {z : ByteArray} {a b : Nat} (h : okB (bs z) = true) (h' : okI a b = true) : dsB z a b = (dsN z a b : Int) := by
  unfold dsB
  rw [h, h']
  rfl
theorem okB_size {z : ByteArray} (h : okB (bs z) = true) : z.size ≤ 60 := by
  have := Nm.ok_short h
  rwa [Nm.bs_length] at this
set_option maxRecDepth 100000 in
set_option maxHeartbeats 4000000 in
theorem spec_l9Ds (z : ByteArray) (a b : Nat) (w : World) (hz : z.size ≤ 60) (hk : okN (a, b) = true) :
    Calls Tryd.prog 42 #[.string z, .agg #[.int .i64 a, .int .i64 b]] w fun e w' => e = .returned (.int .i64 (dsN z a b)) ∧ Below w.heap.size w w' := by
  have hle := ok_le hk
  have CP := hidIt (fun W => l3Point_any a b W hle.1 hle.2)
  have hs2 := ptS_size a b hle.1 hle.2
  have CH : Hid (∀ W, Calls Tryd.prog 63 #[.string (z ++ ⟨#[32]⟩ ++ ptS a b)] W fun e w' => e = .returned (.int .i64 (dsN z a b)) ∧ w' = W) := hidIt (fun W => by
    have := spec_Hash (z ++ Sg.blank ++ ptS a b) W (by rw [ByteArray.size_append, ByteArray.size_append, Sg.blank_size]; omega)
    exact this)
  generalize dsN z a b = r at CH ⊢
  generalize ptS a b = t at CP CH hs2
  have q0 : (⟨#[32]⟩ : ByteArray).size = 1 := rfl
  have q1 : ¬ 9223372036854775807 < z.size + 1 := by omega
  have q2 : ¬ 9223372036854775807 < z.size + 1 + t.size := by omega
  clear hle hk
  go_enter Tryd.func42, Tryd.ntmps42
  go_wp2_with (fail)
  refine (CP.out _).mono ?_
  rintro e w1 ⟨rfl, k1⟩
  have HB := hidIt (((Below.refl w.heap.size w).alloc (Nat.le_refl _) (.cells #[.int .i64 a, .int .i64 b] 23)).trans (k1.mono (by simp)))
  clear k1
  go_wp2_with (fail)
  refine (CH.out _).mono ?_
  rintro e w2 ⟨rfl, rfl⟩
  go_wp2_with (fail)
  go_ret
  exact ⟨rfl, HB.out⟩
set_option maxRecDepth 100000 in
set_option maxHeartbeats 4000000 in
theorem spec_DsOf (z : ByteArray) (v : Value) (k1 k2 u r1 r2 t : Int) (w : World) (hv : ∃ a n c, v = .slice a n c) :
    Calls Tryd.prog 19 #[dv z v k1 k2 u r1 r2 t] w fun e w' => e = .returned (.int .i64 (dsB z k1 k2)) ∧ Below w.heap.size w w' := by
  obtain ⟨a, n, cap, rfl⟩ := hv
  have CN := hidIt (fun W => Nm.spec_NameOk z W)
  have CP := hidIt (fun W => spec_PointOk k1 k2 W)
  have BA := hidIt (Box.new w (dc z (.slice a n cap) k1 k2 u r1 r2 t) 52)
  have HB : Hid (Below w.heap.size w (w.alloc (.cells (dc z (.slice a n cap) k1 k2 u r1 r2 t) 52))) := hidIt ((Below.refl w.heap.size w).alloc (Nat.le_refl _) _)
  cases h1 : okB (bs z) with
  | false =>
    rw [dsB_no (.inl h1)]
    rw [h1] at CN
    clear h1
    go_enter Tryd.func19, Tryd.ntmps19
    go_wp2_with (fail)
    refine (CN.out _).mono ?_
    rintro e w1 ⟨rfl, k⟩
    replace HB := hidIt (HB.out.trans (k.mono HB.out.size))
    clear k
    go_wp2_with (fail)
    go_ret
    exact ⟨rfl, HB.out⟩
  | true =>
    cases h2 : okI k1 k2 with
    | false =>
      rw [dsB_no (.inr h2)]
      rw [h1] at CN
      rw [h2] at CP
      clear h1 h2
      go_enter Tryd.func19, Tryd.ntmps19
      go_wp2_with (fail)
      refine (CN.out _).mono ?_
      rintro e w1 ⟨rfl, k⟩
      replace BA := hidIt (BA.out.kept k)
      replace HB := hidIt (HB.out.trans (k.mono HB.out.size))
      clear k
      have c2 := BA.out.c 2 (v := .int .i64 k1) rfl
      have c3 := BA.out.c 3 (v := .int .i64 k2) rfl
      go_wp2_with (fail)
      refine (CP.out _).mono ?_
      rintro e w2 ⟨rfl, k⟩
      replace HB := hidIt (HB.out.trans (k.mono HB.out.size))
      clear k
      go_wp2_with (fail)
      go_ret
      exact ⟨rfl, HB.out⟩
    | true =>
      obtain ⟨x, y, rfl, rfl, hxy⟩ := okI_nat h2
      rw [dsB_yes h1 h2]
      have CD := hidIt (fun W => spec_l9Ds z x y W (okB_size h1) hxy)
      rw [h1] at CN
      rw [h2] at CP
      clear h1 h2 hxy
      generalize dsN z x y = r at CD ⊢
      go_enter Tryd.func19, Tryd.ntmps19
      go_wp2_with (fail)
      refine (CN.out _).mono ?_
      rintro e w1 ⟨rfl, k⟩
      replace BA := hidIt (BA.out.kept k)
      replace HB := hidIt (HB.out.trans (k.mono HB.out.size))
      clear k
      have c2 := BA.out.c 2 (v := .int .i64 x) rfl
      have c3 := BA.out.c 3 (v := .int .i64 y) rfl
      go_wp2_with (fail)
      refine (CP.out _).mono ?_
      rintro e w2 ⟨rfl, k⟩
      replace BA := hidIt (BA.out.kept k)
      replace HB := hidIt (HB.out.trans (k.mono HB.out.size))
      clear k c2 c3
      have c0 := BA.out.c 0 (v := .string z) rfl
      have c2 := BA.out.c 2 (v := .int .i64 x) rfl
      have c3 := BA.out.c 3 (v := .int .i64 y) rfl
      go_wp2_with (fail)
      refine (CD.out _).mono ?_
      rintro e w3 ⟨rfl, k⟩
      replace HB := hidIt (HB.out.trans (k.mono HB.out.size))
      clear k c0 c2 c3 BA
      go_wp2_with (fail)
      go_ret
      exact ⟨rfl, HB.out⟩
end Go.Proofs.YtniadgjckjnfiaaDoor.Dd
namespace Go.Proofs.YtniadgjckjnfiaaDoor.Dd
open Go.ChangeShapes Go.WideShapes Go.ChangeAt Go.RowKit
open Cv Cu Sg
open Go.Proofs.YtniadgjckjnfiaaDoor.Pt (Ln lat)
open Go.Proofs.YtniadgjckjnfiaaDoor.Bo (Box Box.new Box.newAt Box.kept Box.alloc Box.put Box.other Box.c Box.drew)
open Go.Proofs.YtniadgjckjnfiaaDoor.Nm (bs okB)
open Go.Proofs.YtniadgjckjnfiaaDoor.Ro (timB secB inB)
open Go.Proofs.YtniadgjckjnfiaaDoor.Rc (BelowBy wp_region_below calls_below calls_same)
set_option linter.unusedVariables false
theorem inB_of {n lo hi : Int} : inB n lo hi = (decide (lo ≤ n) && decide (n ≤ hi)) := rfl
set_option maxRecDepth 100000 in
theorem impl_timeOk (n : Int) (w : World) : Calls Tryd.prog 27 #[.int .i64 n] w fun e w' => e = .returned (.bool (timB n)) ∧ w' = w := by
  unfold timB inB
  by_cases h : 0 ≤ n
  · have h' : decide ((0 : Int) ≤ n) = true := decide_eq_true h
    rw [h', Bool.true_and]
    go_enter Tryd.func27, Tryd.ntmps27
    go_wp2
    go_ret
    exact ⟨rfl, rfl⟩
  · have h' : decide ((0 : Int) ≤ n) = false := decide_eq_false h
    rw [h', Bool.false_and]
    go_enter Tryd.func27, Tryd.ntmps27
    go_wp2
    go_ret
    exact ⟨rfl, rfl⟩
theorem formatInt_S (n : Nat) (w : World) (hn : n ≤ 1099511627776) (ht : Tab w) : Calls Tryd.prog 73 #[.int .i64 n, .int .i64 10] w fun e w' => e = .returned (.string (numS n)) ∧ Below w.heap.size w w' :=
  formatInt_any n (by omega) (by omega) w ht
set_option maxRecDepth 100000 in
set_option maxHeartbeats 2000000 in
theorem impl_withBlank (u : Nat) (w : World) (hu : u ≤ 1099511627776) (ht : Tab w) : Calls Tryd.prog 52 #[.int .i64 u] w fun e w' => e = .returned (.string (numS u ++ ⟨#[32]⟩)) ∧ Below w.heap.size w w' := by
  have CF := hidIt (fun W t => formatInt_S u W hu t)
  have hx := numS_size u hu
  generalize numS u = x at CF hx ⊢
  have q0 : (⟨#[32]⟩ : ByteArray).size = 1 := rfl
  have q1 : ¬ 9223372036854775807 < x.size + 1 := by omega
  go_enter Tryd.func52, Tryd.ntmps52
  go_wp2_with (fail)
  refine (CF.out _ ht).mono ?_
  rintro e w1 ⟨rfl, k⟩
  go_wp2_with (fail)
  go_ret
  exact ⟨rfl, k⟩
set_option maxRecDepth 100000 in
set_option maxHeartbeats 2000000 in
theorem impl_sealed (u : Nat) (s : ByteArray) (w : World) (hu : u ≤ 1000000) (hs : s.size ≤ 4611686018427370000) (ht : Tab w) : Calls Tryd.prog 29 #[.int .i64 u, .string s] w fun e w' => e = .returned (.string (stx u s)) ∧ Below w.heap.size w w' := by
  have CF := hidIt (fun W t => impl_withBlank u W (by omega) t)
  have hx := numS_size u (by omega)
  rw [stx_eq]
  have q0 : (⟨#[32]⟩ : ByteArray).size = 1 := rfl
  have hy : (numS u ++ ⟨#[32]⟩).size ≤ 22 := by rw [ByteArray.size_append]; omega
  generalize numS u ++ ⟨#[32]⟩ = x at CF hy ⊢
  have q2 : ¬ 9223372036854775807 < x.size + s.size := by omega
  clear hx q0
  go_enter Tryd.func29, Tryd.ntmps29
  go_wp2_with (fail)
  refine (CF.out _ ht).mono ?_
  rintro e w1 ⟨rfl, k⟩
  go_wp2_with (fail)
  go_ret
  exact ⟨rfl, k⟩
theorem sec_no {n : Int} (h : secB n = false) : ¬ 0 < n ∨ 0 < n ∧ ¬ n < 2549 := by
  unfold secB inB at h
  simp only [Bool.and_eq_false_iff, decide_eq_false_iff_not] at h
  omega
set_option maxRecDepth 100000 in
set_option maxHeartbeats 4000000 in
theorem impl_SealOf (n : Int) (s : ByteArray) (u : Int) (w : World) (ht : Tab w) (hs : s.size ≤ 4611686018427370000) :
    Calls Tryd.prog 8 #[.int .i64 n, .string s, .int .i64 u] w fun e w' => e = .returned (.tuple #[svt (sealR n s u).1, .bool (sealR n s u).2]) ∧ Below w.heap.size w w' := by
  have CT := hidIt (fun W => impl_timeOk u W)
  have BA := hidIt (Box.new w (sc 0 0 0 0 0 0) 27)
  have HB : Hid (Below w.heap.size w (w.alloc (.cells (sc 0 0 0 0 0 0) 27))) := hidIt ((Below.refl w.heap.size w).alloc (Nat.le_refl _) _)
  have HT := hidIt ht
  clear ht
  cases h1 : secB n with
  | false =>
    rw [sealR_no (.inl h1)]
    have CK := hidIt (fun W => impl_KeyOf_no n W (sec_no h1))
    clear h1
    go_enter Tryd.func8, Tryd.ntmps8
    go_wp2_with (fail)
    refine (CK.out _).mono ?_
    rintro e w1 ⟨rfl, k⟩
    replace HB := hidIt (HB.out.trans (k.mono HB.out.size))
    replace BA := hidIt (BA.out.kept k)
    clear k
    have k := (Below.refl w1.heap.size w1).alloc (Nat.le_refl _) (.cells #[.int .i64 0, .int .i64 0] 23)
    replace HB := hidIt (HB.out.trans (k.mono HB.out.size))
    replace BA := hidIt (BA.out.kept k)
    clear k
    have c0 := BA.out.c 0 (v := .int .i64 0) rfl
    have f0 := BA.out.fr 0
    have c1 := BA.out.c 1 (v := .int .i64 0) rfl
    have f1 := BA.out.fr 1
    have c2 := BA.out.c 2 (v := .int .i64 0) rfl
    have f2 := BA.out.fr 2
    have c3 := BA.out.c 3 (v := .int .i64 0) rfl
    have f3 := BA.out.fr 3
    have c4 := BA.out.c 4 (v := .int .i64 0) rfl
    have f4 := BA.out.fr 4
    have c5 := BA.out.c 5 (v := .int .i64 0) rfl
    have f5 := BA.out.fr 5
    go_wp2_with (fail)
    have BZ := (((((BA.out.put (c' := sc 0 0 0 0 0 0) 0 (.int .i64 0) (by simp) rfl).put (c' := sc 0 0 0 0 0 0) 1 (.int .i64 0) (by simp) rfl).put (c' := sc 0 0 0 0 0 0) 2 (.int .i64 0) (by simp) rfl).put (c' := sc 0 0 0 0 0 0) 3 (.int .i64 0) (by simp) rfl).put (c' := sc 0 0 0 0 0 0) 4 (.int .i64 0) (by simp) rfl).put (c' := sc 0 0 0 0 0 0) 5 (.int .i64 0) (by simp) rfl
    refine bodyPost_ret (v := .tuple #[sv 0 0 0 0 0 0, .bool false]) ?_ rfl ⟨rfl, ?_⟩
    · refine ret_box BZ (fun w9 j => ?_)
      have j0 := j.c 0 (v := .int .i64 0) rfl
      have j1 := j.c 1 (v := .int .i64 0) rfl
      have j2 := j.c 2 (v := .int .i64 0) rfl
      have j3 := j.c 3 (v := .int .i64 0) rfl
      have j4 := j.c 4 (v := .int .i64 0) rfl
      have j5 := j.c 5 (v := .int .i64 0) rfl
      clear BZ c0 c1 c2 c3 c4 c5 f0 f1 f2 f3 f4 f5
      simp [results, Tryd.results8, go_sem, j0, j1, j2, j3, j4, j5]
    · exact ((((((HB.out.setCell (p := ⟨w.heap.size, 0, none⟩) (Nat.le_refl _) _).setCell (p := ⟨w.heap.size, 1, none⟩) (Nat.le_refl _) _).setCell (p := ⟨w.heap.size, 2, none⟩) (Nat.le_refl _) _).setCell (p := ⟨w.heap.size, 3, none⟩) (Nat.le_refl _) _).setCell (p := ⟨w.heap.size, 4, none⟩) (Nat.le_refl _) _).setCell (p := ⟨w.heap.size, 5, none⟩) (Nat.le_refl _) _)
  | true =>
    obtain ⟨m, rfl, m1, m2⟩ := sec_nat h1
    have CK := hidIt (fun W => impl_KeyOf_yes m W m1 m2)
    cases h2 : timB u with
    | false =>
      rw [sealR_no (.inr h2)]
      rw [h2] at CT
      clear h1 h2
      generalize ns (2791, 6375) m = K at CK
      obtain ⟨K1, K2⟩ := K
      simp only at CK
      go_enter Tryd.func8, Tryd.ntmps8
      go_wp2_with (fail)
      refine (CK.out _).mono ?_
      rintro e w1 ⟨rfl, k⟩
      replace HB := hidIt (HB.out.trans (k.mono HB.out.size))
      replace BA := hidIt (BA.out.kept k)
      clear k
      have k := (Below.refl w1.heap.size w1).alloc (Nat.le_refl _) (.cells #[.int .i64 K1, .int .i64 K2] 23)
      replace HB := hidIt (HB.out.trans (k.mono HB.out.size))
      replace BA := hidIt (BA.out.kept k)
      clear k
      go_wp2_with (fail)
      refine (CT.out _).mono ?_
      rintro e w2 ⟨rfl, rfl⟩
      have c0 := BA.out.c 0 (v := .int .i64 0) rfl
      have f0 := BA.out.fr 0
      have c1 := BA.out.c 1 (v := .int .i64 0) rfl
      have f1 := BA.out.fr 1
      have c2 := BA.out.c 2 (v := .int .i64 0) rfl
      have f2 := BA.out.fr 2
      have c3 := BA.out.c 3 (v := .int .i64 0) rfl
      have f3 := BA.out.fr 3
      have c4 := BA.out.c 4 (v := .int .i64 0) rfl
      have f4 := BA.out.fr 4
      have c5 := BA.out.c 5 (v := .int .i64 0) rfl
      have f5 := BA.out.fr 5
      go_wp2_with (fail)
      have BZ := (((((BA.out.put (c' := sc 0 0 0 0 0 0) 0 (.int .i64 0) (by simp) rfl).put (c' := sc 0 0 0 0 0 0) 1 (.int .i64 0) (by simp) rfl).put (c' := sc 0 0 0 0 0 0) 2 (.int .i64 0) (by simp) rfl).put (c' := sc 0 0 0 0 0 0) 3 (.int .i64 0) (by simp) rfl).put (c' := sc 0 0 0 0 0 0) 4 (.int .i64 0) (by simp) rfl).put (c' := sc 0 0 0 0 0 0) 5 (.int .i64 0) (by simp) rfl
      refine bodyPost_ret (v := .tuple #[sv 0 0 0 0 0 0, .bool false]) ?_ rfl ⟨rfl, ?_⟩
      · refine ret_box BZ (fun w9 j => ?_)
        have j0 := j.c 0 (v := .int .i64 0) rfl
        have j1 := j.c 1 (v := .int .i64 0) rfl
        have j2 := j.c 2 (v := .int .i64 0) rfl
        have j3 := j.c 3 (v := .int .i64 0) rfl
        have j4 := j.c 4 (v := .int .i64 0) rfl
        have j5 := j.c 5 (v := .int .i64 0) rfl
        clear BZ c0 c1 c2 c3 c4 c5 f0 f1 f2 f3 f4 f5
        simp [results, Tryd.results8, go_sem, j0, j1, j2, j3, j4, j5]
      · exact ((((((HB.out.setCell (p := ⟨w.heap.size, 0, none⟩) (Nat.le_refl _) _).setCell (p := ⟨w.heap.size, 1, none⟩) (Nat.le_refl _) _).setCell (p := ⟨w.heap.size, 2, none⟩) (Nat.le_refl _) _).setCell (p := ⟨w.heap.size, 3, none⟩) (Nat.le_refl _) _).setCell (p := ⟨w.heap.size, 4, none⟩) (Nat.le_refl _) _).setCell (p := ⟨w.heap.size, 5, none⟩) (Nat.le_refl _) _)
    | true =>
      obtain ⟨v, rfl, hv⟩ := tim_nat h2
      rw [sealR_yes h1 h2, sealN_eq]
      rw [h2] at CT
      have CX := hidIt (fun W t => impl_sealed v s W hv hs t)
      have CG := hidIt (fun W t => impl_Signed_yes m (stx v s) W m1 m2 (by have := stx_size (u := v) (s := s) (by omega); omega) t)
      clear h1 h2
      generalize ((ns (2791, 6375) m).1 : Int) = K1 at CK ⊢
      generalize ((ns (2791, 6375) m).2 : Int) = K2 at CK ⊢
      generalize ((sgR m (stx v s)).1 : Int) = R1 at CG ⊢
      generalize ((sgR m (stx v s)).2 : Int) = R2 at CG ⊢
      generalize (sgT m (stx v s) : Int) = T at CG ⊢
      generalize stx v s = tx at CX CG
      go_enter Tryd.func8, Tryd.ntmps8
      go_wp2_with (fail)
      refine (CK.out _).mono ?_
      rintro e w1 ⟨rfl, k⟩
      replace HB := hidIt (HB.out.trans (k.mono HB.out.size))
      replace BA := hidIt (BA.out.kept k)
      clear k
      have BK := hidIt (Box.new w1 #[.int .i64 K1, .int .i64 K2] 23)
      have k := (Below.refl w1.heap.size w1).alloc (Nat.le_refl _) (.cells #[.int .i64 K1, .int .i64 K2] 23)
      replace HB := hidIt (HB.out.trans (k.mono HB.out.size))
      replace BA := hidIt (BA.out.kept k)
      clear k
      go_wp2_with (fail)
      refine (CT.out _).mono ?_
      rintro e w2 ⟨rfl, rfl⟩
      go_wp2_with (fail)
      refine (CX.out _ (HT.out.kept HB.out)).mono ?_
      rintro e w3 ⟨rfl, k⟩
      replace HB := hidIt (HB.out.trans (k.mono HB.out.size))
      replace BA := hidIt (BA.out.kept k)
      replace BK := hidIt (BK.out.kept k)
      clear k
      go_wp2_with (fail)
      refine (CG.out _ (HT.out.kept HB.out)).mono ?_
      rintro e w4 ⟨rfl, k⟩
      replace HB := hidIt (HB.out.trans (k.mono HB.out.size))
      replace BA := hidIt (BA.out.kept k)
      replace BK := hidIt (BK.out.kept k)
      clear k
      have k := (Below.refl w4.heap.size w4).alloc (Nat.le_refl _) (.cells #[.int .i64 R1, .int .i64 R2, .int .i64 T] 25)
      replace HB := hidIt (HB.out.trans (k.mono HB.out.size))
      replace BA := hidIt (BA.out.kept k)
      replace BK := hidIt (BK.out.kept k)
      clear k
      generalize w1.heap.size = b1 at BK ⊢
      have d0 := BK.out.c 0 (v := .int .i64 K1) rfl
      have d1 := BK.out.c 1 (v := .int .i64 K2) rfl
      have c0 := BA.out.c 0 (v := .int .i64 0) rfl
      have f0 := BA.out.fr 0
      have c1 := BA.out.c 1 (v := .int .i64 0) rfl
      have f1 := BA.out.fr 1
      have c2 := BA.out.c 2 (v := .int .i64 0) rfl
      have f2 := BA.out.fr 2
      have c3 := BA.out.c 3 (v := .int .i64 0) rfl
      have f3 := BA.out.fr 3
      have c4 := BA.out.c 4 (v := .int .i64 0) rfl
      have f4 := BA.out.fr 4
      have c5 := BA.out.c 5 (v := .int .i64 0) rfl
      have f5 := BA.out.fr 5
      go_wp2_with (fail)
      have BZ := (((((BA.out.put (c' := sc K1 0 0 0 0 0) 0 (.int .i64 K1) (by simp) rfl).put (c' := sc K1 K2 0 0 0 0) 1 (.int .i64 K2) (by simp) rfl).put (c' := sc K1 K2 v 0 0 0) 2 (.int .i64 v) (by simp) rfl).put (c' := sc K1 K2 v R1 0 0) 3 (.int .i64 R1) (by simp) rfl).put (c' := sc K1 K2 v R1 R2 0) 4 (.int .i64 R2) (by simp) rfl).put (c' := sc K1 K2 v R1 R2 T) 5 (.int .i64 T) (by simp) rfl
      refine bodyPost_ret (v := .tuple #[sv K1 K2 v R1 R2 T, .bool true]) ?_ rfl ⟨rfl, ?_⟩
      · refine ret_box BZ (fun w9 j => ?_)
        have j0 := j.c 0 (v := .int .i64 K1) rfl
        have j1 := j.c 1 (v := .int .i64 K2) rfl
        have j2 := j.c 2 (v := .int .i64 v) rfl
        have j3 := j.c 3 (v := .int .i64 R1) rfl
        have j4 := j.c 4 (v := .int .i64 R2) rfl
        have j5 := j.c 5 (v := .int .i64 T) rfl
        clear BZ c0 c1 c2 c3 c4 c5 f0 f1 f2 f3 f4 f5 d0 d1
        simp [results, Tryd.results8, go_sem, j0, j1, j2, j3, j4, j5]
      · exact ((((((HB.out.setCell (p := ⟨w.heap.size, 0, none⟩) (Nat.le_refl _) _).setCell (p := ⟨w.heap.size, 1, none⟩) (Nat.le_refl _) _).setCell (p := ⟨w.heap.size, 2, none⟩) (Nat.le_refl _) _).setCell (p := ⟨w.heap.size, 3, none⟩) (Nat.le_refl _) _).setCell (p := ⟨w.heap.size, 4, none⟩) (Nat.le_refl _) _).setCell (p := ⟨w.heap.size, 5, none⟩) (Nat.le_refl _) _)
end Go.Proofs.YtniadgjckjnfiaaDoor.Dd
namespace Go.Proofs.YtniadgjckjnfiaaDoor.Pt
open Go.ChangeShapes Go.WideShapes Go.ChangeAt Go.RowKit
open Cv Cu
set_option linter.unusedVariables false
set_option maxRecDepth 100000 in
theorem szPointS_any (a : Option Addr) (cap n : Nat) (l : Int) (w : World) (hl : n ≤ 9223372036854775807) (h0 : 0 ≤ l) (h1 : l ≤ 1048576) :
    Calls Tryd.prog 13 #[.slice a n cap, .int .i64 l] w fun e w' => ∃ r : Int, e = .returned (.int .i64 r) ∧ r ≤ l ∧ -1 ≤ r ∧ (0 ≤ r → n ≤ 1048576) ∧ w' = w := by
  have h2 : -9223372036854775808 ≤ l - (n : Int) := by omega
  have h3 : l - (n : Int) ≤ 9223372036854775807 := by omega
  by_cases hs2 : l - (n : Int) < 0
  · go_enter Tryd.func13, Tryd.ntmps13
    go_wp2
    go_ret
    exact ⟨-1, rfl, by omega, by omega, fun h => by omega, rfl⟩
  · have hn2 : n ≤ 1048576 := by omega
    go_enter Tryd.func13, Tryd.ntmps13
    go_wp2
    go_ret
    first | exact ⟨_, rfl, by omega, by omega, fun _ => hn2, rfl⟩ | exact ⟨_, rfl, by omega, by omega, rfl⟩ | exact ⟨_, rfl, by omega, rfl⟩
theorem infoLn : (Tryd.prog.info? 23).map (fun i => (i.zero, i.size, i.bytes)) = some (some (.agg #[.int .i64 0, .int .i64 0]), 2, 16) := by kernel_rfl
set_option maxRecDepth 100000 in
set_option maxHeartbeats 4000000 in
theorem toPointS_any (a : Option Addr) (cap : Nat) (L : List Ln) (w : World) (h : Rd w a L) (hl : L.length ≤ 1048576) :
    Calls Tryd.prog 15 #[.slice a L.length cap] w fun e w' => ∃ v, e = .returned v ∧ Own w' w.heap.size v L ∧ Below w.heap.size w w' := by
  generalize hn : L.length = n at *
  obtain ⟨i0, hi, hz0, hz1, hz2⟩ := info_parts infoLn
  have HR := hidIt h
  have HN := hidIt hn
  clear h hn
  go_enter Tryd.func15, Tryd.ntmps15
  go_wp2_with (first
    | (at_make; refine wpList_make_full _ rfl _ _ 43 rfl w.heap.size 23 i0 (.agg #[.int .i64 0, .int .i64 0]) 2 Tryd.underlying43 hi hz0 hz1 _ _ _ _ n rfl rfl (by omega) (by omega) (by rw [hz2]; omega) (by unfold maxLen; omega) (Nat.le_refl _) ?_)
    | fail)
  intro w1 hown hgrow
  have HO : Hid (Own w1 w.heap.size (.slice (some ⟨w.heap.size, 0, none⟩) n n) (List.replicate n (0, 0))) := by
    refine hidIt ?_
    unfold Own
    rw [List.length_replicate, lcells_zero]
    exact hown
  have HB := hidIt ((Below.refl w.heap.size w).grown hgrow (Nat.le_refl _) (fun k hk => by cases hk))
  clear hown hgrow
  go_wp2_with (fail)
  go_loopw [4] (fun y wx => ∃ (i : Nat) (M : List Ln), y = .int .i64 i ∧ i ≤ n ∧ M.length = n ∧ Hid (∀ j, j < i → lat M j = lat L j) ∧ Own wx w.heap.size (.slice (some ⟨w.heap.size, 0, none⟩) n n) M ∧ Below w.heap.size w wx) (fun y _ => (n - intOf y).toNat)
  case atStart => exact ⟨0, _, rfl, by omega, by simp, hidIt (fun j hj => by omega), HO.out, HB.out⟩
  case round =>
    obtain ⟨i, M, rfl, hin0, hM, hE, hO, hB⟩ := hrel
    have HRx := hidIt (HR.out.kept hB)
    have HBx := hidIt hB
    have HOx := hidIt hO
    have HM := hidIt hM
    clear hB hO HO HB hM
    by_cases hin : i < n
    · have hin' : (i : Int) < (n : Int) := by omega
      obtain ⟨b, off, rfl, c0, c1⟩ := HRx.out.cell i (by rw [HN.out]; exact hin)
      generalize hx : lat L i = x at c0 c1
      have HX := hidIt hx
      clear hx
      obtain ⟨s, q⟩ := x
      go_wp2_with (fail)
      refine (toPoint_any s q _).mono ?_
      rintro e w2 ⟨rfl, hb2⟩
      have HB2 := hidIt (HBx.out.trans (hb2.mono HBx.out.size))
      have HO2 := hidIt (HOx.out.kept hb2)
      have hiM : i < M.length := by rw [HM.out]; exact hin
      have HO3 := hidIt (HO2.out.line hiM s q)
      obtain ⟨c2, c3, f0, f1⟩ := HO2.out.at hiM
      clear hb2 HRx HBx HOx HO2
      have HMi := hidIt hiM
      clear hiM
      go_wp2_with (fail)
      refine ⟨⟨i + 1, _, by simp, by omega, by rw [List.length_set]; exact HM.out, hidIt (fun j hj => ?_), HO3.out, (HB2.out.setCell (by simp) _).setCell (by simp) _⟩, by simp [intOf]; omega⟩
      rw [lat_set HMi.out]
      split
      · next e => subst e; exact HX.out.symm
      · exact hE.out j (by omega)
    · have hin' : ¬ (i : Int) < (n : Int) := by omega
      have e : M = L := ext_lat (by rw [HM.out, HN.out]) (fun j hj => hE.out j (by rw [HM.out] at hj; omega))
      subst e
      go_wp2_with (fail)
      go_ret
      exact ⟨_, rfl, HOx.out, HBx.out⟩
theorem held4c {W wA : World} {b x y c u v : Nat} {a0 a1 a2 a3 : Value} (k : Below W.heap.size W wA) (h : W.cell? ⟨b, x, none⟩ = some a0 ∧ W.cell? ⟨b, y, none⟩ = some a1 ∧ W.cell? ⟨c, u, none⟩ = some a2 ∧ W.cell? ⟨c, v, none⟩ = some a3) : wA.cell? ⟨b, x, none⟩ = some a0 ∧ wA.cell? ⟨b, y, none⟩ = some a1 ∧ wA.cell? ⟨c, u, none⟩ = some a2 ∧ wA.cell? ⟨c, v, none⟩ = some a3 := by
  rw [k.cell (p := ⟨b, x, none⟩) (cell_block h.1), k.cell (p := ⟨b, y, none⟩) (cell_block h.1), k.cell (p := ⟨c, u, none⟩) (cell_block h.2.2.1), k.cell (p := ⟨c, v, none⟩) (cell_block h.2.2.1)]
  exact h
theorem held4c_drew {W wA : World} {b x y c u v : Nat} {a0 a1 a2 a3 : Value} (k : Below W.drew.heap.size W.drew wA) (h : W.cell? ⟨b, x, none⟩ = some a0 ∧ W.cell? ⟨b, y, none⟩ = some a1 ∧ W.cell? ⟨c, u, none⟩ = some a2 ∧ W.cell? ⟨c, v, none⟩ = some a3) : wA.cell? ⟨b, x, none⟩ = some a0 ∧ wA.cell? ⟨b, y, none⟩ = some a1 ∧ wA.cell? ⟨c, u, none⟩ = some a2 ∧ wA.cell? ⟨c, v, none⟩ = some a3 := held4c (W := W.drew) k h
set_option maxRecDepth 100000 in
set_option maxHeartbeats 4000000 in
theorem eqPointS_any (a b : Option Addr) (ca cb : Nat) (L : List Ln) (w : World) (ha : Rd w a L) (hb : Rd w b L) (hl : L.length ≤ 9223372036854775806) :
    Calls Tryd.prog 17 #[.slice a L.length ca, .slice b L.length cb] w fun e w' => e = .returned (.bool true) ∧ Below w.heap.size w w' := by
  generalize hn : L.length = n at *
  have HA := hidIt ha
  have HB := hidIt hb
  have HN := hidIt hn
  clear ha hb hn
  have hnn : ((n : Int) != (n : Int)) = false := by simp
  go_enter Tryd.func17, Tryd.ntmps17
  go_wp2_with (fail)
  go_loopw [5] (fun y wx => ∃ i : Nat, y = .int .i64 i ∧ i ≤ n ∧ Below w.heap.size w wx) (fun y _ => (n - intOf y).toNat)
  case atStart => exact ⟨0, rfl, by omega, Below.refl _ _⟩
  case round =>
    obtain ⟨i, rfl, hi, hB⟩ := hrel
    have RA := hidIt (HA.out.kept hB)
    have RB := hidIt (HB.out.kept hB)
    have KX := hidIt hB
    clear hB
    by_cases hin : i < n
    · have hin' : (i : Int) < (n : Int) := by omega
      obtain ⟨b1, o1, rfl, c0, c1⟩ := RA.out.cell i (by rw [HN.out]; omega)
      obtain ⟨b2, o2, rfl, d0, d1⟩ := RB.out.cell i (by rw [HN.out]; omega)
      generalize lat L i = x at c0 c1 d0 d1
      obtain ⟨s, q⟩ := x
      have hf := And.intro c0 (And.intro c1 (And.intro d0 d1))
      clear RA RB HA HB
      go_wp2_with (fail)
      go_region_held3 (fun w' => w'.cell? ⟨b1, o1 + i * 2, none⟩ = some (.int .i64 s) ∧ w'.cell? ⟨b1, o1 + i * 2 + 1, none⟩ = some (.int .i64 q) ∧ w'.cell? ⟨b2, o2 + i * 2, none⟩ = some (.int .i64 s) ∧ w'.cell? ⟨b2, o2 + i * 2 + 1, none⟩ = some (.int .i64 q))
        (first | assumption | (with_reducible exact held4c_drew hbB hf) | go_keep)
        (first | (go_at_call 30; refine (eqPoint_same s q _).mono ?_; rintro e wB ⟨rfl, hbB⟩))
      have hBB : Hid (Below w.heap.size w wB) := hidIt (KX.out.drew.trans (hbB.mono (by have := KX.out.size; simpa using this)))
      clear hbB hf
      go_wp2_with (fail)
      exact ⟨⟨i + 1, by simp, by omega, hBB.out⟩, by simp [intOf]; omega⟩
    · have hin' : ¬ (i : Int) < (n : Int) := by omega
      go_wp2_with (fail)
      go_ret
      exact ⟨rfl, KX.out⟩
end Go.Proofs.YtniadgjckjnfiaaDoor.Pt
namespace Go.Proofs.YtniadgjckjnfiaaDoor.Dd
open Go.ChangeShapes Go.WideShapes Go.ChangeAt Go.RowKit
open Cv Cu Sg
open Go.Proofs.YtniadgjckjnfiaaDoor.Bo (Box Box.new Box.newAt Box.kept Box.alloc Box.put Box.other Box.c Box.drew)
set_option linter.unusedVariables false
set_option maxRecDepth 100000 in
set_option maxHeartbeats 4000000 in
theorem toSeal_any (k1 k2 u r1 r2 t : Int) (w : World) : Calls Tryd.prog 11 #[sv k1 k2 u r1 r2 t] w fun e w' => e = .returned (sv k1 k2 u r1 r2 t) ∧ Below w.heap.size w w' := by
  have BA := hidIt ((((Box.new w (sc k1 k2 u r1 r2 t) 36).alloc (.cells (sc 0 0 0 0 0 0) 27)).alloc (.cells (sc 0 0 0 0 0 0) 27)))
  have BB : Hid (Box (((w.alloc (.cells (sc k1 k2 u r1 r2 t) 36)).alloc (.cells (sc 0 0 0 0 0 0) 27)).alloc (.cells (sc 0 0 0 0 0 0) 27)) (w.heap.size + 1) (sc 0 0 0 0 0 0)) := hidIt ((Box.newAt (by simp)).alloc _)
  have BC : Hid (Box (((w.alloc (.cells (sc k1 k2 u r1 r2 t) 36)).alloc (.cells (sc 0 0 0 0 0 0) 27)).alloc (.cells (sc 0 0 0 0 0 0) 27)) (w.heap.size + 1 + 1) (sc 0 0 0 0 0 0)) := hidIt (Box.newAt (by simp))
  have HB : Hid (Below w.heap.size w (((w.alloc (.cells (sc k1 k2 u r1 r2 t) 36)).alloc (.cells (sc 0 0 0 0 0 0) 27)).alloc (.cells (sc 0 0 0 0 0 0) 27))) := hidIt ((((Below.refl w.heap.size w).alloc (Nat.le_refl _) _).alloc (by simp) _).alloc (by simp; omega) _)
  go_enter Tryd.func11, Tryd.ntmps11
  go_wp2_with (fail)
  refine (toPoint_any _ _ _).mono ?_
  rintro e w1 ⟨rfl, k⟩
  replace BA := hidIt (BA.out.kept k)
  replace BB := hidIt (BB.out.kept k)
  replace BC := hidIt (BC.out.kept k)
  replace HB := hidIt (HB.out.trans (k.mono HB.out.size))
  clear k
  have ne1 : w.heap.size ≠ w.heap.size + 1 + 1 := by omega
  have ne2 : w.heap.size + 1 ≠ w.heap.size + 1 + 1 := by omega
  have ne3 : w.heap.size + 1 + 1 ≠ w.heap.size := by omega
  have ne4 : w.heap.size + 1 + 1 ≠ w.heap.size + 1 := by omega
  have hle : w.heap.size ≤ w.heap.size + 1 + 1 := by omega
  have hle1 : w.heap.size ≤ w.heap.size + 1 := by omega
  generalize w.heap.size + 1 + 1 = n2 at *
  generalize w.heap.size + 1 = n1 at *
  have a2 := BA.out.c 2 rfl
  have a3 := BA.out.c 3 rfl
  have a4 := BA.out.c 4 rfl
  have a5 := BA.out.c 5 rfl
  have c0 := BC.out.c 0 rfl
  have c1 := BC.out.c 1 rfl
  have c2 := BC.out.c 2 rfl
  have f0 := BC.out.fr 0
  have f1 := BC.out.fr 1
  have f2 := BC.out.fr 2
  go_wp2_with (fail)
  refine (toSig_any _ _ _ _).mono ?_
  rintro e w2 ⟨rfl, k⟩
  replace BC : Hid (Box w2 n2 (sc k1 k2 u 0 0 0)) := hidIt ((((BC.out.put (c' := sc k1 0 0 0 0 0) 0 (.int .i64 k1) (by simp) rfl).put (c' := sc k1 k2 0 0 0 0) 1 (.int .i64 k2) (by simp) rfl).put 2 (.int .i64 u) (by simp) rfl).kept k)
  replace BB := hidIt ((((BB.out.other (v := .int .i64 k1) (i := 0) ne4).other (v := .int .i64 k2) (i := 1) ne4).other (v := .int .i64 u) (i := 2) ne4).kept k)
  replace HB := hidIt ((((HB.out.setCell (p := ⟨n2, 0, none⟩) hle (.int .i64 k1)).setCell (p := ⟨n2, 1, none⟩) hle (.int .i64 k2)).setCell (p := ⟨n2, 2, none⟩) hle (.int .i64 u)).trans (k.mono (by simpa using HB.out.size)))
  clear k a2 a3 a4 a5 c0 c1 c2 f0 f1 f2 BA
  have c0 := BC.out.c 0 rfl
  have c1 := BC.out.c 1 rfl
  have c2 := BC.out.c 2 rfl
  have c3 := BC.out.c 3 rfl
  have c4 := BC.out.c 4 rfl
  have c5 := BC.out.c 5 rfl
  have f3 := BC.out.fr 3
  have f4 := BC.out.fr 4
  have f5 := BC.out.fr 5
  have b0 := BB.out.c 0 rfl
  have b1 := BB.out.c 1 rfl
  have b2 := BB.out.c 2 rfl
  have b3 := BB.out.c 3 rfl
  have b4 := BB.out.c 4 rfl
  have b5 := BB.out.c 5 rfl
  have d0 := BB.out.fr 0
  have d1 := BB.out.fr 1
  have d2 := BB.out.fr 2
  have d3 := BB.out.fr 3
  have d4 := BB.out.fr 4
  have d5 := BB.out.fr 5
  go_wp2_with (fail)
  have BZ := ((((((((BB.out.other (v := .int .i64 r1) (i := 3) ne4).other (v := .int .i64 r2) (i := 4) ne4).other (v := .int .i64 t) (i := 5) ne4).put (c' := sc k1 0 0 0 0 0) 0 (.int .i64 k1) (by simp) rfl).put (c' := sc k1 k2 0 0 0 0) 1 (.int .i64 k2) (by simp) rfl).put (c' := sc k1 k2 u 0 0 0) 2 (.int .i64 u) (by simp) rfl).put (c' := sc k1 k2 u r1 0 0) 3 (.int .i64 r1) (by simp) rfl).put (c' := sc k1 k2 u r1 r2 0) 4 (.int .i64 r2) (by simp) rfl).put (c' := sc k1 k2 u r1 r2 t) 5 (.int .i64 t) (by simp) rfl
  refine bodyPost_ret (v := sv k1 k2 u r1 r2 t) ?_ rfl ⟨rfl, ?_⟩
  · refine ret_box BZ (fun w9 j => ?_)
    have j0 := j.c 0 rfl
    have j1 := j.c 1 rfl
    have j2 := j.c 2 rfl
    have j3 := j.c 3 rfl
    have j4 := j.c 4 rfl
    have j5 := j.c 5 rfl
    clear BZ c0 c1 c2 c3 c4 c5 b0 b1 b2 b3 b4 b5 d0 d1 d2 d3 d4 d5 f3 f4 f5
    simp [results, Tryd.results11, go_sem, j0, j1, j2, j3, j4, j5]
  · exact (((((((((HB.out.setCell (p := ⟨n2, 3, none⟩) hle _).setCell (p := ⟨n2, 4, none⟩) hle _).setCell (p := ⟨n2, 5, none⟩) hle _).setCell (p := ⟨n1, 0, none⟩) hle1 _).setCell (p := ⟨n1, 1, none⟩) hle1 _).setCell (p := ⟨n1, 2, none⟩) hle1 _).setCell (p := ⟨n1, 3, none⟩) hle1 _).setCell (p := ⟨n1, 4, none⟩) hle1 _).setCell (p := ⟨n1, 5, none⟩) hle1 _)
set_option maxRecDepth 100000 in
set_option maxHeartbeats 4000000 in
theorem eqSeal_same (k1 k2 u r1 r2 t : Int) (w : World) : Calls Tryd.prog 9 #[sv k1 k2 u r1 r2 t, sv k1 k2 u r1 r2 t] w fun e w' => e = .returned (.bool true) ∧ Below w.heap.size w w' := by
  have BA := hidIt ((Box.new w (sc k1 k2 u r1 r2 t) 27).alloc (.cells (sc k1 k2 u r1 r2 t) 27))
  have BB : Hid (Box ((w.alloc (.cells (sc k1 k2 u r1 r2 t) 27)).alloc (.cells (sc k1 k2 u r1 r2 t) 27)) (w.heap.size + 1) (sc k1 k2 u r1 r2 t)) := hidIt (Box.newAt (by simp))
  have HB : Hid (Below w.heap.size w ((w.alloc (.cells (sc k1 k2 u r1 r2 t) 27)).alloc (.cells (sc k1 k2 u r1 r2 t) 27))) := hidIt (((Below.refl w.heap.size w).alloc (Nat.le_refl _) _).alloc (by simp) _)
  have hu : (u != u) = false := by simp
  go_enter Tryd.func9, Tryd.ntmps9
  go_wp2_with (fail)
  refine (eqPoint_same _ _ _).mono ?_
  rintro e w1 ⟨rfl, k⟩
  replace BA := hidIt (BA.out.kept k)
  replace BB := hidIt (BB.out.kept k)
  replace HB := hidIt (HB.out.trans (k.mono HB.out.size))
  clear k
  generalize w.heap.size + 1 = n1 at *
  have a2 := BA.out.c 2 rfl
  have a3 := BA.out.c 3 rfl
  have a4 := BA.out.c 4 rfl
  have a5 := BA.out.c 5 rfl
  have b2 := BB.out.c 2 rfl
  have b3 := BB.out.c 3 rfl
  have b4 := BB.out.c 4 rfl
  have b5 := BB.out.c 5 rfl
  go_wp2_with (fail)
  refine (eqSig_same _ _ _ _).mono ?_
  rintro e w2 ⟨rfl, k⟩
  replace HB := hidIt (HB.out.trans (k.mono HB.out.size))
  clear k a2 a3 a4 a5 b2 b3 b4 b5 BA BB
  go_wp2_with (fail)
  go_ret
  exact ⟨rfl, HB.out⟩
end Go.Proofs.YtniadgjckjnfiaaDoor.Dd
namespace Go.Proofs.YtniadgjckjnfiaaDoor.Dd
open Go.ChangeShapes Go.WideShapes Go.ChangeAt Go.RowKit
open Cv Cu Sg
open Go.Proofs.YtniadgjckjnfiaaDoor.Pt (Ln lat szPointS_any toPointS_any eqPointS_any)
open Go.Proofs.YtniadgjckjnfiaaDoor.Bo (Box Box.new Box.newAt Box.kept Box.alloc Box.put Box.other Box.c Box.drew)
set_option linter.unusedVariables false
set_option maxRecDepth 100000 in
set_option maxHeartbeats 2000000 in
theorem szDeed_any (z : ByteArray) (a : Option Addr) (n cap : Nat) (k1 k2 u r1 r2 t : Int) (l : Int) (w : World) (hz : z.size ≤ 9223372036854775807) (hl : n ≤ 9223372036854775807) (h0 : 0 ≤ l) (h1 : l ≤ 1048576) :
    Calls Tryd.prog 18 #[dv z (.slice a n cap) k1 k2 u r1 r2 t, .int .i64 l] w fun e w' => ∃ r : Int, e = .returned (.int .i64 r) ∧ r ≤ l ∧ -1 ≤ r ∧ (0 ≤ r → n ≤ 1048576) ∧ Below w.heap.size w w' := by
  have g1 : -9223372036854775808 ≤ l - (z.size : Int) := by omega
  have g2 : l - (z.size : Int) ≤ 9223372036854775807 := by omega
  have HB := hidIt ((Below.refl w.heap.size w).alloc (Nat.le_refl _) (.cells (dc z (.slice a n cap) k1 k2 u r1 r2 t) 48))
  by_cases hn1 : l - (z.size : Int) < 0
  · go_enter Tryd.func18, Tryd.ntmps18
    go_wp2
    go_ret
    exact ⟨-1, rfl, by omega, by omega, fun h => by omega, HB.out⟩
  · generalize e1 : l - (z.size : Int) = m at g1 g2 hn1
    have CZ := hidIt (fun W => szPointS_any a cap n m W hl (by omega) (by omega))
    go_enter Tryd.func18, Tryd.ntmps18
    go_wp2_with (fail)
    refine (CZ.out _).mono ?_
    rintro e w1 ⟨r, rfl, hr1, hr0, hr2, rfl⟩
    have HR2 := hidIt hr2
    clear hr2
    by_cases hneg : r < 0
    · go_wp2_with (fail)
      go_ret
      exact ⟨-1, rfl, by omega, by omega, fun h => by omega, HB.out⟩
    · go_wp2_with (fail)
      go_ret
      exact ⟨r, rfl, by omega, by omega, HR2.out, HB.out⟩
set_option maxRecDepth 100000 in
set_option maxHeartbeats 4000000 in
theorem toDeed_any (z : ByteArray) (a : Option Addr) (cap : Nat) (L : List Ln) (k1 k2 u r1 r2 t : Int) (w : World) (h : Pt.Rd w a L) (hl : L.length ≤ 1048576) :
    Calls Tryd.prog 20 #[dv z (.slice a L.length cap) k1 k2 u r1 r2 t] w fun e w' => ∃ x cp, e = .returned (dv z (.slice x L.length cp) k1 k2 u r1 r2 t) ∧ Pt.Own w' w.heap.size (.slice x L.length cp) L ∧ Below w.heap.size w w' := by
  have CT := hidIt (fun W hW => toPointS_any a cap L W hW hl)
  have CS := hidIt (fun W => toSeal_any k1 k2 u r1 r2 t W)
  have HR := hidIt h
  clear h
  have BA : Hid (Box (((w.alloc (.cells (dc z (.slice a L.length cap) k1 k2 u r1 r2 t) 48)).alloc (.cells (dc ⟨#[]⟩ (.slice none 0 0) 0 0 0 0 0 0) 52)).alloc (.cells (dc z (.slice none 0 0) 0 0 0 0 0 0) 52)) w.heap.size (dc z (.slice a L.length cap) k1 k2 u r1 r2 t)) := hidIt (((Box.new w _ _).alloc _).alloc _)
  have BB : Hid (Box (((w.alloc (.cells (dc z (.slice a L.length cap) k1 k2 u r1 r2 t) 48)).alloc (.cells (dc ⟨#[]⟩ (.slice none 0 0) 0 0 0 0 0 0) 52)).alloc (.cells (dc z (.slice none 0 0) 0 0 0 0 0 0) 52)) (w.heap.size + 1) (dc ⟨#[]⟩ (.slice none 0 0) 0 0 0 0 0 0)) := hidIt ((Box.newAt (by simp)).alloc _)
  have BC : Hid (Box (((w.alloc (.cells (dc z (.slice a L.length cap) k1 k2 u r1 r2 t) 48)).alloc (.cells (dc ⟨#[]⟩ (.slice none 0 0) 0 0 0 0 0 0) 52)).alloc (.cells (dc z (.slice none 0 0) 0 0 0 0 0 0) 52)) (w.heap.size + 1 + 1) (dc z (.slice none 0 0) 0 0 0 0 0 0)) := hidIt (Box.newAt (by simp))
  have HB : Hid (Below w.heap.size w (((w.alloc (.cells (dc z (.slice a L.length cap) k1 k2 u r1 r2 t) 48)).alloc (.cells (dc ⟨#[]⟩ (.slice none 0 0) 0 0 0 0 0 0) 52)).alloc (.cells (dc z (.slice none 0 0) 0 0 0 0 0 0) 52))) := hidIt ((((Below.refl w.heap.size w).alloc (Nat.le_refl _) _).alloc (by simp) _).alloc (by simp; omega) _)
  go_enter Tryd.func20, Tryd.ntmps20
  go_wp2_with (fail)
  refine (CT.out _ (HR.out.kept HB.out)).mono ?_
  rintro e w1 ⟨v1, rfl, hO1, k⟩
  obtain ⟨x1, cp1, rfl, f1', m1, R1, hna, hsome⟩ := hO1.form
  have ne1 : w.heap.size ≠ w.heap.size + 1 + 1 := by omega
  have ne2 : w.heap.size + 1 ≠ w.heap.size + 1 + 1 := by omega
  have ne3 : w.heap.size + 1 + 1 ≠ w.heap.size := by omega
  have ne4 : w.heap.size + 1 + 1 ≠ w.heap.size + 1 := by omega
  have hle : w.heap.size ≤ w.heap.size + 1 + 1 := by omega
  have hle1 : w.heap.size ≤ w.heap.size + 1 := by omega
  replace BA := hidIt (BA.out.kept k)
  replace BB := hidIt (BB.out.kept k)
  replace BC := hidIt (BC.out.kept k)
  replace HB := hidIt (HB.out.trans (k.mono HB.out.size))
  have HO1 : Hid (Pt.Own w1 (w.heap.size + 1 + 1 + 1) (.slice x1 L.length cp1) L) := hidIt (hO1.mono (by simp))
  have lt1 : ∀ q, (Value.slice x1 L.length cp1).ownBlock = some q → w.heap.size + 1 + 1 < q ∧ w.heap.size + 1 < q := fun q hq => by have := (World.ownsRow.lt HO1.out q hq).1; omega
  have hn3 : w.heap.size ≤ w.heap.size + 1 + 1 + 1 := by omega
  clear hO1 R1 hna hsome k HR CT f1' m1
  generalize w.heap.size + 1 + 1 + 1 = n3 at *
  generalize w.heap.size + 1 + 1 = n2 at *
  generalize w.heap.size + 1 = n1 at *
  have a2 := BA.out.c 2 (v := .int .i64 k1) rfl
  have a3 := BA.out.c 3 (v := .int .i64 k2) rfl
  have a4 := BA.out.c 4 (v := .int .i64 u) rfl
  have a5 := BA.out.c 5 (v := .int .i64 r1) rfl
  have a6 := BA.out.c 6 (v := .int .i64 r2) rfl
  have a7 := BA.out.c 7 (v := .int .i64 t) rfl
  have c1 := BC.out.c 1 (v := .slice none 0 0) rfl
  have f1 := BC.out.fr 1
  go_wp2_with (fail)
  refine (CS.out _).mono ?_
  rintro e w2 ⟨rfl, k⟩
  replace BC := hidIt ((BC.out.put (c' := #[.string z, .slice x1 L.length cp1, .int .i64 0, .int .i64 0, .int .i64 0, .int .i64 0, .int .i64 0, .int .i64 0]) 1 (.slice x1 L.length cp1) (by simp) rfl).kept k)
  replace BB := hidIt ((BB.out.other (v := .slice x1 L.length cp1) (i := 1) ne4).kept k)
  replace HB := hidIt ((HB.out.setCell (p := ⟨n2, 1, none⟩) hle (.slice x1 L.length cp1)).trans (k.mono (by simpa using HB.out.size)))
  replace HO1 := hidIt (Pt.Own.kept (Pt.Own.only (c := n2) HO1.out ((Only.refl _ _).setCell 1 (.slice x1 L.length cp1)) (.inr fun q hq e => by have := (lt1 q hq).1; omega)) k)
  clear k a2 a3 a4 a5 a6 a7 c1 f1 BA
  have c0 := BC.out.c 0 (v := .string z) rfl
  have c1 := BC.out.c 1 (v := .slice x1 L.length cp1) rfl
  have c2 := BC.out.c 2 (v := .int .i64 0) rfl
  have c3 := BC.out.c 3 (v := .int .i64 0) rfl
  have c4 := BC.out.c 4 (v := .int .i64 0) rfl
  have c5 := BC.out.c 5 (v := .int .i64 0) rfl
  have c6 := BC.out.c 6 (v := .int .i64 0) rfl
  have c7 := BC.out.c 7 (v := .int .i64 0) rfl
  have f2 := BC.out.fr 2
  have f3 := BC.out.fr 3
  have f4 := BC.out.fr 4
  have f5 := BC.out.fr 5
  have f6 := BC.out.fr 6
  have f7 := BC.out.fr 7
  have b0 := BB.out.c 0 (v := .string ⟨#[]⟩) rfl
  have b1 := BB.out.c 1 (v := .slice none 0 0) rfl
  have b2 := BB.out.c 2 (v := .int .i64 0) rfl
  have b3 := BB.out.c 3 (v := .int .i64 0) rfl
  have b4 := BB.out.c 4 (v := .int .i64 0) rfl
  have b5 := BB.out.c 5 (v := .int .i64 0) rfl
  have b6 := BB.out.c 6 (v := .int .i64 0) rfl
  have b7 := BB.out.c 7 (v := .int .i64 0) rfl
  have d0 := BB.out.fr 0
  have d1 := BB.out.fr 1
  have d2 := BB.out.fr 2
  have d3 := BB.out.fr 3
  have d4 := BB.out.fr 4
  have d5 := BB.out.fr 5
  have d6 := BB.out.fr 6
  have d7 := BB.out.fr 7
  go_wp2_with (fail)
  have BZ := ((((((((((((((BB.out.other (v := .int .i64 k1) (i := 2) ne4).other (v := .int .i64 k2) (i := 3) ne4).other (v := .int .i64 u) (i := 4) ne4).other (v := .int .i64 r1) (i := 5) ne4).other (v := .int .i64 r2) (i := 6) ne4).other (v := .int .i64 t) (i := 7) ne4).put (c' := #[.string z, .slice none 0 0, .int .i64 0, .int .i64 0, .int .i64 0, .int .i64 0, .int .i64 0, .int .i64 0]) 0 (.string z) (by simp) rfl).put (c' := #[.string z, .slice x1 L.length cp1, .int .i64 0, .int .i64 0, .int .i64 0, .int .i64 0, .int .i64 0, .int .i64 0]) 1 (.slice x1 L.length cp1) (by simp) rfl).put (c' := #[.string z, .slice x1 L.length cp1, .int .i64 k1, .int .i64 0, .int .i64 0, .int .i64 0, .int .i64 0, .int .i64 0]) 2 (.int .i64 k1) (by simp) rfl).put (c' := #[.string z, .slice x1 L.length cp1, .int .i64 k1, .int .i64 k2, .int .i64 0, .int .i64 0, .int .i64 0, .int .i64 0]) 3 (.int .i64 k2) (by simp) rfl).put (c' := #[.string z, .slice x1 L.length cp1, .int .i64 k1, .int .i64 k2, .int .i64 u, .int .i64 0, .int .i64 0, .int .i64 0]) 4 (.int .i64 u) (by simp) rfl).put (c' := #[.string z, .slice x1 L.length cp1, .int .i64 k1, .int .i64 k2, .int .i64 u, .int .i64 r1, .int .i64 0, .int .i64 0]) 5 (.int .i64 r1) (by simp) rfl).put (c' := #[.string z, .slice x1 L.length cp1, .int .i64 k1, .int .i64 k2, .int .i64 u, .int .i64 r1, .int .i64 r2, .int .i64 0]) 6 (.int .i64 r2) (by simp) rfl).put (c' := #[.string z, .slice x1 L.length cp1, .int .i64 k1, .int .i64 k2, .int .i64 u, .int .i64 r1, .int .i64 r2, .int .i64 t]) 7 (.int .i64 t) (by simp) rfl)
  refine bodyPost_ret (v := dv z (.slice x1 L.length cp1) k1 k2 u r1 r2 t) ?_ rfl ⟨x1, cp1, rfl, ?_, ?_⟩
  · refine ret_box BZ (fun w9 j => ?_)
    have j0 := j.c 0 (v := .string z) rfl
    have j1 := j.c 1 (v := .slice x1 L.length cp1) rfl
    have j2 := j.c 2 (v := .int .i64 k1) rfl
    have j3 := j.c 3 (v := .int .i64 k2) rfl
    have j4 := j.c 4 (v := .int .i64 u) rfl
    have j5 := j.c 5 (v := .int .i64 r1) rfl
    have j6 := j.c 6 (v := .int .i64 r2) rfl
    have j7 := j.c 7 (v := .int .i64 t) rfl
    clear BZ c0 c1 c2 c3 c4 c5 c6 c7 f2 f3 f4 f5 f6 f7 b0 b1 b2 b3 b4 b5 b6 b7 d0 d1 d2 d3 d4 d5 d6 d7
    simp [results, Tryd.results20, go_sem, j0, j1, j2, j3, j4, j5, j6, j7]
  · exact Pt.Own.only (c := n1) (Pt.Own.only (c := n2) (HO1.out.mono hn3) (((((((Only.refl _ _).setCell 2 (.int .i64 k1)).setCell 3 (.int .i64 k2)).setCell 4 (.int .i64 u)).setCell 5 (.int .i64 r1)).setCell 6 (.int .i64 r2)).setCell 7 (.int .i64 t)) (.inr fun q hq e => by have := (lt1 q hq).1; omega)) (((((((((Only.refl _ _).setCell 0 (.string z)).setCell 1 (.slice x1 L.length cp1)).setCell 2 (.int .i64 k1)).setCell 3 (.int .i64 k2)).setCell 4 (.int .i64 u)).setCell 5 (.int .i64 r1)).setCell 6 (.int .i64 r2)).setCell 7 (.int .i64 t)) (.inr fun q hq e => by have := (lt1 q hq).2; omega)
  · exact ((((((((((((((HB.out.setCell (p := ⟨n2, 2, none⟩) hle (.int .i64 k1)).setCell (p := ⟨n2, 3, none⟩) hle (.int .i64 k2)).setCell (p := ⟨n2, 4, none⟩) hle (.int .i64 u)).setCell (p := ⟨n2, 5, none⟩) hle (.int .i64 r1)).setCell (p := ⟨n2, 6, none⟩) hle (.int .i64 r2)).setCell (p := ⟨n2, 7, none⟩) hle (.int .i64 t)).setCell (p := ⟨n1, 0, none⟩) hle1 (.string z)).setCell (p := ⟨n1, 1, none⟩) hle1 (.slice x1 L.length cp1)).setCell (p := ⟨n1, 2, none⟩) hle1 (.int .i64 k1)).setCell (p := ⟨n1, 3, none⟩) hle1 (.int .i64 k2)).setCell (p := ⟨n1, 4, none⟩) hle1 (.int .i64 u)).setCell (p := ⟨n1, 5, none⟩) hle1 (.int .i64 r1)).setCell (p := ⟨n1, 6, none⟩) hle1 (.int .i64 r2)).setCell (p := ⟨n1, 7, none⟩) hle1 (.int .i64 t))
set_option maxRecDepth 100000 in
set_option maxHeartbeats 4000000 in
theorem eqDeed_same (z : ByteArray) (a b : Option Addr) (ca cb : Nat) (L : List Ln) (k1 k2 u r1 r2 t : Int) (w : World) (ha : Pt.Rd w a L) (hb : Pt.Rd w b L) (hl : L.length ≤ 9223372036854775806) :
    Calls Tryd.prog 22 #[dv z (.slice a L.length ca) k1 k2 u r1 r2 t, dv z (.slice b L.length cb) k1 k2 u r1 r2 t] w fun e w' => e = .returned (.bool true) ∧ Below w.heap.size w w' := by
  have CE := hidIt (fun W h h' => eqPointS_any a b ca cb L W h h' hl)
  have CS := hidIt (fun W => eqSeal_same k1 k2 u r1 r2 t W)
  have HA := hidIt ha
  have HC := hidIt hb
  clear ha hb
  generalize L.length = n at *
  have BA : Hid (Box ((w.alloc (.cells (dc z (.slice a n ca) k1 k2 u r1 r2 t) 52)).alloc (.cells (dc z (.slice b n cb) k1 k2 u r1 r2 t) 52)) w.heap.size (dc z (.slice a n ca) k1 k2 u r1 r2 t)) := hidIt ((Box.new w _ _).alloc _)
  have BB : Hid (Box ((w.alloc (.cells (dc z (.slice a n ca) k1 k2 u r1 r2 t) 52)).alloc (.cells (dc z (.slice b n cb) k1 k2 u r1 r2 t) 52)) (w.heap.size + 1) (dc z (.slice b n cb) k1 k2 u r1 r2 t)) := hidIt (Box.newAt (by simp))
  have HB : Hid (Below w.heap.size w ((w.alloc (.cells (dc z (.slice a n ca) k1 k2 u r1 r2 t) 52)).alloc (.cells (dc z (.slice b n cb) k1 k2 u r1 r2 t) 52))) := hidIt (((Below.refl w.heap.size w).alloc (Nat.le_refl _) _).alloc (by simp) _)
  go_enter Tryd.func22, Tryd.ntmps22
  go_wp2_with (fail)
  refine (CE.out _ (HA.out.kept HB.out) (HC.out.kept HB.out)).mono ?_
  rintro e w1 ⟨rfl, k⟩
  replace BA := hidIt (BA.out.kept k)
  replace BB := hidIt (BB.out.kept k)
  replace HB := hidIt (HB.out.trans (k.mono HB.out.size))
  clear k CE HA HC
  generalize w.heap.size + 1 = n1 at *
  have a2 := BA.out.c 2 (v := .int .i64 k1) rfl
  have b2 := BB.out.c 2 (v := .int .i64 k1) rfl
  have a3 := BA.out.c 3 (v := .int .i64 k2) rfl
  have b3 := BB.out.c 3 (v := .int .i64 k2) rfl
  have a4 := BA.out.c 4 (v := .int .i64 u) rfl
  have b4 := BB.out.c 4 (v := .int .i64 u) rfl
  have a5 := BA.out.c 5 (v := .int .i64 r1) rfl
  have b5 := BB.out.c 5 (v := .int .i64 r1) rfl
  have a6 := BA.out.c 6 (v := .int .i64 r2) rfl
  have b6 := BB.out.c 6 (v := .int .i64 r2) rfl
  have a7 := BA.out.c 7 (v := .int .i64 t) rfl
  have b7 := BB.out.c 7 (v := .int .i64 t) rfl
  go_wp2_with (fail)
  refine (CS.out _).mono ?_
  rintro e w2 ⟨rfl, k⟩
  replace HB := hidIt (HB.out.trans (k.mono HB.out.size))
  clear k a2 a3 a4 a5 a6 a7 b2 b3 b4 b5 b6 b7 BA BB
  go_wp2_with (fail)
  go_ret
  exact ⟨rfl, HB.out⟩
end Go.Proofs.YtniadgjckjnfiaaDoor.Dd
