/-
  SealOf and Holds of the specification.
-/
import Derived.Test.YtniadgjckjnfiaaDoorSignZ
import Derived.Test.YtniadgjckjnfiaaDoorSignU
import Derived.Test.YtniadgjckjnfiaaDoorRollM
import Derived.Test.YtniadgjckjnfiaaDoorBoxM
import Derived.Test.YtniadgjckjnfiaaDoorQuiet
namespace Go.Proofs.YtniadgjckjnfiaaDoor.Dd
open Go.ChangeShapes Go.WideShapes Go.ChangeAt Go.RowKit
open Cv Cu Sg
open Go.Proofs.YtniadgjckjnfiaaDoor.Bo (Box Box.new Box.newAt Box.kept Box.alloc Box.put Box.other Box.c Box.drew)
open Go.Proofs.YtniadgjckjnfiaaDoor.Ro (timB secB inB spec_l3Secret spec_l9Time)
open Go.Proofs.YtniadgjckjnfiaaDoor.Rc (BelowBy wp_region_below calls_below calls_same)
set_option linter.unusedVariables false
/-- The cells of a Seal, and the Seal. -/
abbrev sc (k1 k2 u r1 r2 t : Int) : Array Value := #[.int .i64 k1, .int .i64 k2, .int .i64 u, .int .i64 r1, .int .i64 r2, .int .i64 t]
abbrev sv (k1 k2 u r1 r2 t : Int) : Value := .agg (sc k1 k2 u r1 r2 t)
theorem ret_box {fn : Func} {tm : Array Value} {wf : World} {b : Nat} {c : Array Value} {v : Value} (t : Box wf b c) (h : ∀ w2, Box w2 b c → (results fn tm).run Tryd.prog w2 = .ok v w2) : (results fn tm).run Tryd.prog wf = .ok v wf := h wf t
/-- What is sealed: Until, a blank, the text. -/
def stx (u : Nat) (s : ByteArray) : ByteArray := numS u ++ Sg.blank ++ s
theorem stx_eq (u : Nat) (s : ByteArray) : stx u s = numS u ++ ⟨#[32]⟩ ++ s := rfl
theorem stx_size {u : Nat} {s : ByteArray} (hu : u ≤ 1099511627776) : (stx u s).size ≤ s.size + 22 := by
  have := numS_size u hu
  unfold stx
  rw [ByteArray.size_append, ByteArray.size_append, Sg.blank_size]
  omega
def holdsB (K1 K2 u R1 R2 T : Int) (s : ByteArray) (now : Int) : Bool :=
  timB u && (timB now && (decide (now < u) && validB K1 K2 (stx u.toNat s) R1 R2 T))
theorem tim_nat {u : Int} (h : timB u = true) : ∃ m : Nat, u = (m : Int) ∧ m ≤ 1000000 := by
  unfold timB inB at h
  simp only [Bool.and_eq_true, decide_eq_true_eq] at h
  exact ⟨u.toNat, by omega, by omega⟩
theorem sec_nat {u : Int} (h : secB u = true) : ∃ m : Nat, u = (m : Int) ∧ 0 < m ∧ m < 2549 := by
  unfold secB inB at h
  simp only [Bool.and_eq_true, decide_eq_true_eq] at h
  exact ⟨u.toNat, by omega, by omega, by omega⟩
set_option maxRecDepth 100000 in
set_option maxHeartbeats 4000000 in
theorem spec_l9Seal_aux (n u : Nat) (K1 K2 R1 R2 T : Int) (s x : ByteArray) (w : World) (hx : x.size ≤ 21) (hs : s.size ≤ 4611686018427370000)
    (cn : ∀ w, Calls Tryd.prog 33 #[.int .i64 u] w fun e w' => e = .returned (.string x) ∧ Below w.heap.size w w')
    (ck : ∀ w, Calls Tryd.prog 45 #[.int .i64 n, .agg #[.int .i64 2791, .int .i64 6375]] w fun e w' => e = .returned (.agg #[.int .i64 K1, .int .i64 K2]) ∧ Below w.heap.size w w')
    (cs : ∀ w, Calls Tryd.prog 47 #[.int .i64 n, .string (x ++ ⟨#[32]⟩ ++ s)] w fun e w' => e = .returned (.agg #[.int .i64 R1, .int .i64 R2, .int .i64 T]) ∧ Below w.heap.size w w') :
    Calls Tryd.prog 25 #[.int .i64 n, .string s, .int .i64 u] w fun e w' => e = .returned (sv K1 K2 u R1 R2 T) ∧ Below w.heap.size w w' := by
  have CK := hidIt ck
  have CN := hidIt cn
  have CS := hidIt cs
  have g0 : (⟨#[32]⟩ : ByteArray).size = 1 := rfl
  have g1 : ¬ 9223372036854775807 < x.size + 1 := by omega
  have g2 : ¬ 9223372036854775807 < x.size + 1 + s.size := by omega
  clear ck cn cs
  have BA := hidIt (Box.new w (sc 0 0 0 0 0 0) 27)
  have HB : Hid (Below w.heap.size w (w.alloc (.cells (sc 0 0 0 0 0 0) 27))) := hidIt ((Below.refl w.heap.size w).alloc (Nat.le_refl _) _)
  go_enter Tryd.func25, Tryd.ntmps25
  go_wp2_with (fail)
  refine (spec_Base _).mono ?_
  rintro e w1 ⟨rfl, k⟩
  replace BA := hidIt (BA.out.kept k)
  replace HB := hidIt (HB.out.trans (k.mono HB.out.size))
  clear k
  go_wp2_with (fail)
  refine (CK.out _).mono ?_
  rintro e w2 ⟨rfl, k⟩
  replace BA := hidIt (BA.out.kept k)
  replace HB := hidIt (HB.out.trans (k.mono HB.out.size))
  clear k
  go_wp2_with (fail)
  refine (CN.out _).mono ?_
  rintro e w3 ⟨rfl, k⟩
  replace BA := hidIt (BA.out.kept k)
  replace HB := hidIt (HB.out.trans (k.mono HB.out.size))
  clear k
  go_wp2_with (fail)
  refine (CS.out _).mono ?_
  rintro e w4 ⟨rfl, k⟩
  replace BA := hidIt (BA.out.kept k)
  replace HB := hidIt (HB.out.trans (k.mono HB.out.size))
  clear k
  have c0 := BA.out.c 0 rfl
  have c1 := BA.out.c 1 rfl
  have c2 := BA.out.c 2 rfl
  have c3 := BA.out.c 3 rfl
  have c4 := BA.out.c 4 rfl
  have c5 := BA.out.c 5 rfl
  have f0 := BA.out.fr 0
  have f1 := BA.out.fr 1
  have f2 := BA.out.fr 2
  have f3 := BA.out.fr 3
  have f4 := BA.out.fr 4
  have f5 := BA.out.fr 5
  go_wp2_with (fail)
  have BZ := (((((BA.out.put (c' := sc K1 0 0 0 0 0) 0 (.int .i64 K1) (by simp) rfl).put (c' := sc K1 K2 0 0 0 0) 1 (.int .i64 K2) (by simp) rfl).put (c' := sc K1 K2 u 0 0 0) 2 (.int .i64 u) (by simp) rfl).put (c' := sc K1 K2 u R1 0 0) 3 (.int .i64 R1) (by simp) rfl).put (c' := sc K1 K2 u R1 R2 0) 4 (.int .i64 R2) (by simp) rfl).put (c' := sc K1 K2 u R1 R2 T) 5 (.int .i64 T) (by simp) rfl
  refine bodyPost_ret (v := sv K1 K2 u R1 R2 T) ?_ rfl ⟨rfl, ?_⟩
  · refine ret_box BZ (fun w9 j => ?_)
    have j0 := j.c 0 rfl
    have j1 := j.c 1 rfl
    have j2 := j.c 2 rfl
    have j3 := j.c 3 rfl
    have j4 := j.c 4 rfl
    have j5 := j.c 5 rfl
    clear BZ c0 c1 c2 c3 c4 c5 f0 f1 f2 f3 f4 f5
    simp [results, Tryd.results25, go_sem, j0, j1, j2, j3, j4, j5]
  · exact ((((((HB.out.setCell (by simp) _).setCell (by simp) _).setCell (by simp) _).setCell (by simp) _).setCell (by simp) _).setCell (by simp) _)
theorem spec_l9Seal (n u : Nat) (s : ByteArray) (w : World) (hn : n < 2549) (hu : u ≤ 1000000) (hs : s.size ≤ 4611686018427370000) :
    Calls Tryd.prog 25 #[.int .i64 n, .string s, .int .i64 u] w fun e w' => e = .returned (sv (ns (2791, 6375) n).1 (ns (2791, 6375) n).2 u (sgR n (stx u s)).1 (sgR n (stx u s)).2 (sgT n (stx u s))) ∧ Below w.heap.size w w' := by
  have cs := fun w => l3Signed_any n (stx u s) w hn (by have := stx_size (u := u) (s := s) (by omega); omega)
  have cn := fun w => l1Int_any u w (by omega)
  have ck := fun w => l2Times_any 2791 6375 n w ok_base (by omega)
  generalize sgR n (stx u s) = R at cs ⊢
  generalize sgT n (stx u s) = T at cs ⊢
  generalize ns (2791, 6375) n = K at ck ⊢
  exact spec_l9Seal_aux n u K.1 K.2 R.1 R.2 T s (numS u) w (numS_size u (by omega)) hs cn ck cs
/-- The Seal of a secret, a time and a text. -/
def sealN (n u : Nat) (s : ByteArray) : Int × Int × Int × Int × Int × Int :=
  (((ns (2791, 6375) n).1 : Int), ((ns (2791, 6375) n).2 : Int), (u : Int), ((sgR n (stx u s)).1 : Int), ((sgR n (stx u s)).2 : Int), (sgT n (stx u s) : Int))
theorem sealN_eq (n u : Nat) (s : ByteArray) : sealN n u s = (((ns (2791, 6375) n).1 : Int), ((ns (2791, 6375) n).2 : Int), (u : Int), ((sgR n (stx u s)).1 : Int), ((sgR n (stx u s)).2 : Int), (sgT n (stx u s) : Int)) := sealN.eq_1 n u s
/-- SealOf's answer. -/
def sealR (n : Int) (s : ByteArray) (u : Int) : (Int × Int × Int × Int × Int × Int) × Bool :=
  if secB n && timB u then (sealN n.toNat u.toNat s, true) else ((0, 0, 0, 0, 0, 0), false)
abbrev svt (q : Int × Int × Int × Int × Int × Int) : Value := sv q.1 q.2.1 q.2.2.1 q.2.2.2.1 q.2.2.2.2.1 q.2.2.2.2.2
theorem sealR_yes {n u : Nat} {s : ByteArray} (h : secB n = true) (h' : timB u = true) : sealR n s u = (sealN n u s, true) := by
  unfold sealR
  rw [h, h', Int.toNat_natCast, Int.toNat_natCast]
  rfl
theorem sealR_no {n u : Int} {s : ByteArray} (h : secB n = false ∨ timB u = false) : sealR n s u = ((0, 0, 0, 0, 0, 0), false) := by
  unfold sealR
  rcases h with h | h
  · rw [h]; rfl
  · rw [h, Bool.and_false]; rfl
set_option maxRecDepth 100000 in
set_option maxHeartbeats 4000000 in
theorem spec_SealOf (n : Int) (s : ByteArray) (u : Int) (w : World) (hs : s.size ≤ 4611686018427370000) :
    Calls Tryd.prog 7 #[.int .i64 n, .string s, .int .i64 u] w fun e w' => e = .returned (.tuple #[svt (sealR n s u).1, .bool (sealR n s u).2]) ∧ Below w.heap.size w w' := by
  have CS := hidIt (fun W => spec_l3Secret n W)
  have CT := hidIt (fun W => spec_l9Time u W)
  have BA := hidIt (Box.new w (sc 0 0 0 0 0 0) 27)
  have HB : Hid (Below w.heap.size w (w.alloc (.cells (sc 0 0 0 0 0 0) 27))) := hidIt ((Below.refl w.heap.size w).alloc (Nat.le_refl _) _)
  cases h1 : secB n with
  | false =>
    rw [sealR_no (.inl h1)]
    rw [h1] at CS
    clear h1
    go_enter Tryd.func7, Tryd.ntmps7
    go_wp2_with (fail)
    refine (CS.out _).mono ?_
    rintro e w1 ⟨rfl, rfl⟩
    go_wp2_with (fail)
    refine bodyPost_ret (v := .tuple #[sv 0 0 0 0 0 0, .bool false]) (by simp [results, Tryd.results7, go_sem]) rfl ⟨rfl, ?_⟩
    first | exact HB.out | exact ((((((HB.out.setCell (by simp) _).setCell (by simp) _).setCell (by simp) _).setCell (by simp) _).setCell (by simp) _).setCell (by simp) _)
  | true =>
    cases h2 : timB u with
    | false =>
      rw [sealR_no (.inr h2)]
      rw [h1] at CS
      rw [h2] at CT
      clear h1 h2
      go_enter Tryd.func7, Tryd.ntmps7
      go_wp2_with (fail)
      refine (CS.out _).mono ?_
      rintro e w1 ⟨rfl, rfl⟩
      go_wp2_with (fail)
      refine (CT.out _).mono ?_
      rintro e w1 ⟨rfl, rfl⟩
      go_wp2_with (fail)
      refine bodyPost_ret (v := .tuple #[sv 0 0 0 0 0 0, .bool false]) (by simp [results, Tryd.results7, go_sem]) rfl ⟨rfl, ?_⟩
      first | exact HB.out | exact ((((((HB.out.setCell (by simp) _).setCell (by simp) _).setCell (by simp) _).setCell (by simp) _).setCell (by simp) _).setCell (by simp) _)
    | true =>
      obtain ⟨m, rfl, m1, m2⟩ := sec_nat h1
      obtain ⟨v, rfl, hv⟩ := tim_nat h2
      rw [sealR_yes h1 h2, sealN_eq]
      have CL := hidIt (fun W => spec_l9Seal m v s W m2 hv hs)
      rw [h1] at CS
      rw [h2] at CT
      clear h1 h2
      generalize sgR m (stx v s) = R at CL ⊢
      generalize sgT m (stx v s) = T at CL ⊢
      generalize ns (2791, 6375) m = K at CL ⊢
      obtain ⟨R1, R2⟩ := R
      obtain ⟨K1, K2⟩ := K
      go_enter Tryd.func7, Tryd.ntmps7
      go_wp2_with (fail)
      refine (CS.out _).mono ?_
      rintro e w1 ⟨rfl, rfl⟩
      go_wp2_with (fail)
      refine (CT.out _).mono ?_
      rintro e w1 ⟨rfl, rfl⟩
      go_wp2_with (fail)
      refine (CL.out _).mono ?_
      rintro e w2 ⟨rfl, k⟩
      replace BA := hidIt (BA.out.kept k)
      replace HB := hidIt (HB.out.trans (k.mono HB.out.size))
      clear k
      have c0 := BA.out.c 0 rfl
      have c1 := BA.out.c 1 rfl
      have c2 := BA.out.c 2 rfl
      have c3 := BA.out.c 3 rfl
      have c4 := BA.out.c 4 rfl
      have c5 := BA.out.c 5 rfl
      have f0 := BA.out.fr 0
      have f1 := BA.out.fr 1
      have f2 := BA.out.fr 2
      have f3 := BA.out.fr 3
      have f4 := BA.out.fr 4
      have f5 := BA.out.fr 5
      go_wp2_with (fail)
      have BZ := (((((BA.out.put (c' := sc K1 0 0 0 0 0) 0 (.int .i64 K1) (by simp) rfl).put (c' := sc K1 K2 0 0 0 0) 1 (.int .i64 K2) (by simp) rfl).put (c' := sc K1 K2 v 0 0 0) 2 (.int .i64 v) (by simp) rfl).put (c' := sc K1 K2 v R1 0 0) 3 (.int .i64 R1) (by simp) rfl).put (c' := sc K1 K2 v R1 R2 0) 4 (.int .i64 R2) (by simp) rfl).put (c' := sc K1 K2 v R1 R2 T) 5 (.int .i64 T) (by simp) rfl
      refine bodyPost_ret (v := .tuple #[sv K1 K2 v R1 R2 T, .bool true]) ?_ rfl ⟨rfl, ?_⟩
      · refine ret_box BZ (fun w9 j => ?_)
        have j0 := j.c 0 rfl
        have j1 := j.c 1 rfl
        have j2 := j.c 2 rfl
        have j3 := j.c 3 rfl
        have j4 := j.c 4 rfl
        have j5 := j.c 5 rfl
        clear BZ c0 c1 c2 c3 c4 c5 f0 f1 f2 f3 f4 f5
        simp [results, Tryd.results7, go_sem, j0, j1, j2, j3, j4, j5]
      · exact ((((((HB.out.setCell (by simp) _).setCell (by simp) _).setCell (by simp) _).setCell (by simp) _).setCell (by simp) _).setCell (by simp) _)
end Go.Proofs.YtniadgjckjnfiaaDoor.Dd
