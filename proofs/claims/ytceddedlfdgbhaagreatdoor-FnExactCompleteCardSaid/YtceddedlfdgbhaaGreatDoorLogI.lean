/-
  What a Line's Sum is, by the program and by the specification; the last Sum of a list.
-/
import Derived.Test.YtceddedlfdgbhaaGreatDoorLogP
namespace Go.Proofs.YtceddedlfdgbhaaGreatDoor.Lg
open Go.ChangeShapes Go.WideShapes Go.ChangeAt Go.RowKit
open Sg
set_option maxHeartbeats 2000000 in
theorem impl_sumBehind (n : Nat) (s : ByteArray) (w : World) (hn : n ≤ 1099511627776) (hs : s.size ≤ 9223372036854775807) (ht : Tab w) :
    Calls Tryz.prog 85 #[.int .i64 n, .string s] w fun e w' => e = .returned (.int .i64 (sumN n s)) ∧ Below w.heap.size w w' := by
  have HT := hidIt ht
  have htl := ht.lt
  have ec : ((sumN n s : Nat) : Int) = (hend (hrun 17 (nums (numS n ++ Sg.blank ++ s))) : Int) := by
    unfold sumN hashN; rfl
  rw [ec]
  clear ec ht
  go_enter Tryz.func85, Tryz.ntmps85
  go_wp2_with (fail)
  refine (newHasher_any _).mono ?_
  rintro e w1 ⟨rfl, hb1⟩
  have HB1 := hidIt hb1
  have z1 := hb1.size
  clear hb1
  have HT1 := hidIt (HT.out.kept HB1.out)
  go_wp2_with (fail)
  refine (number_any w1.heap.size 17 n _ (One.newAt rfl) (by omega) hn HT1.out.old).mono ?_
  rintro e w2 ⟨rfl, hO2, hB2⟩
  have HO2 := hidIt hO2
  have HB2 := hidIt hB2
  clear hO2 hB2
  go_wp2_with (fail)
  refine (text_any w1.heap.size _ s _ HO2.out (hrun_lt _ _ (by omega)) hs).mono ?_
  rintro e w3 ⟨rfl, hO3, hB3⟩
  rw [hrun_two] at hO3
  have hl := hrun_lt (nums (numS n ++ Sg.blank ++ s)) 17 (by omega)
  have CE := hidIt (fun w => ended_any (hrun 17 (nums (numS n ++ Sg.blank ++ s))) w hl)
  have HB3 := hidIt hB3
  generalize hg : hrun 17 (nums (numS n ++ Sg.blank ++ s)) = g at hO3 CE
  have HG := hidIt hg
  clear hg hl
  have c0 := hO3.c0
  have z3 := hO3.lt
  clear hO3 hB3
  go_wp2_with (fail)
  refine (CE.out _).mono ?_
  rintro e w4 ⟨rfl, hb4⟩
  go_wp2_with (fail)
  go_ret
  refine ⟨?_, (((HB1.out.alloc z1 _).trans (HB2.out.below (B := w.heap.size) (by omega) (by simp; omega))).trans (HB3.out.below (B := w.heap.size) (by omega) (by have := HB2.out.size; simp at this; omega))).trans (hb4.mono (by omega))⟩
  rw [HG.out]
  rfl
set_option maxRecDepth 100000 in
set_option maxHeartbeats 2000000 in
theorem spec_l4Sum (n : Nat) (s : ByteArray) (w : World) (hn : n ≤ 1099511627776) (hs : s.size ≤ 4611686018427380000) :
    Calls Tryz.prog 23 #[.int .i64 n, .string s] w fun e w' => e = .returned (.int .i64 (sumN n s)) ∧ Below w.heap.size w w' := by
  have ca := fun w => l1Int_any n w hn
  have sa := numS_size n hn
  have ep : sumN n s = hashN (nums (numS n ++ ⟨#[32]⟩ ++ s)) := rfl
  rw [ep]
  clear ep
  change ∀ w, Calls Tryz.prog _ _ w fun e w' => e = .returned (.string (numS n)) ∧ _ at ca
  have CA := hidIt ca
  clear ca
  generalize numS n = xa at CA sa ⊢
  have q0 : (⟨#[32]⟩ : ByteArray).size = 1 := rfl
  have q1 : ¬ 9223372036854775807 < xa.size + 1 := by omega
  have q2 : ¬ 9223372036854775807 < xa.size + 1 + s.size := by omega
  have CH := hidIt (fun w => spec_Hash (xa ++ ⟨#[32]⟩ ++ s) w (by rw [ByteArray.size_append, ByteArray.size_append, q0]; omega))
  generalize (hashN (nums (xa ++ ⟨#[32]⟩ ++ s)) : Int) = hh at CH ⊢
  go_enter Tryz.func23, Tryz.ntmps23
  go_wp2_with (fail)
  refine (CA.out _).mono ?_
  rintro e w1 ⟨rfl, hb1⟩
  go_wp2_with (fail)
  refine (CH.out _).mono ?_
  rintro e w2 ⟨rfl, rfl⟩
  go_wp2_with (fail)
  go_ret
  exact ⟨rfl, hb1⟩
/-- What the walk wants of the last Line. -/
theorem Rd.last {w : World} {a : Option Addr} {L : List Ln} {k : Nat} (h : Rd w a L) (hk : L.length = k + 1) : ∃ b off, a = some ⟨b, off, none⟩ ∧ w.cell? ⟨b, off + k * 2 + 1, none⟩ = some (.int .i64 (headL L)) := by
  obtain ⟨b, off, e, _, c1⟩ := h.cell k (by omega)
  exact ⟨b, off, e, by rw [headL_len hk]; exact c1⟩
set_option maxHeartbeats 2000000 in
theorem impl_lastSum (a : Option Addr) (cap : Nat) (L : List Ln) (w : World) (h : Rd w a L) (hl : L.length ≤ 9223372036854775807) :
    Calls Tryz.prog 86 #[.slice a L.length cap] w fun e w' => e = .returned (.int .i64 (headL L)) ∧ w' = w := by
  generalize hn : L.length = n at hl
  cases n with
  | zero =>
    have e : L = [] := List.eq_nil_of_length_eq_zero hn
    subst e
    go_enter Tryz.func86, Tryz.ntmps86
    go_wp2
    go_ret
    exact ⟨rfl, rfl⟩
  | succ k =>
    obtain ⟨b, off, rfl, c1⟩ := h.last hn
    generalize headL L = hd at c1 ⊢
    have h2 : (((k : Int) + 1) == 0) = false := by simp; omega
    go_enter Tryz.func86, Tryz.ntmps86
    go_wp2
    go_ret
    exact ⟨rfl, rfl⟩
end Go.Proofs.YtceddedlfdgbhaaGreatDoor.Lg
