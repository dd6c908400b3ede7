/-
  Valid: both answer alike, whatever the key, the text and the Sig.
  Valid, in one plain function of any numbers and any text: both answer it.
  SealOf and Holds of the specification.
  Holds of the specification.
  A list of Points as it lies in memory: two cells a Point; a row of the call's own.
-/
import Derived.Test.YtciikondckoboaaGreatDoorBun2
import Derived.Test.YtciikondckoboaaGreatDoorRollM
import Derived.Test.YtciikondckoboaaGreatDoorBoxM
import Derived.Test.YtciikondckoboaaGreatDoorQuiet
import Derived.Test.YtciikondckoboaaGreatDoorMem
import Derived.Test.YtciikondckoboaaGreatDoorProg
import Derived.Laws.OwnMore
import Derived.Deep.OwnRows
import Derived.OwnWalk
import Derived.Laws.AppendOwn
import Derived.Lib.SmallJoins
namespace Go.Proofs.YtciikondckoboaaGreatDoor.Sg
open Go.ChangeShapes Go.WideShapes Go.ChangeAt Go.RowKit
open Cv Cu
theorem pr' (p : Nat × Nat) : (p.1, p.2) = p := rfl
theorem ns_lt' {a b : Nat} (h : okN (a, b) = true) (n : Nat) : (ns (a, b) n).1 < 10007 ∧ (ns (a, b) n).2 < 10007 := ok_el (ns_ok h n)
theorem ns_ok' {a b : Nat} (h : okN (a, b) = true) (n : Nat) : okN ((ns (a, b) n).1, (ns (a, b) n).2) = true := by rw [pr']; exact ns_ok h n
set_option maxRecDepth 100000 in
set_option maxHeartbeats 4000000 in
theorem spec_Valid_no1 (K1 K2 R1 R2 T : Int) (s : ByteArray) (w : World) (h : okI K1 K2 = false) :
    Calls Tryz.prog 47 #[.agg #[.int .i64 K1, .int .i64 K2], .string s, .agg #[.int .i64 R1, .int .i64 R2, .int .i64 T]] w fun e w' => e = .returned (.bool false) ∧ Below w.heap.size w w' := by
  have ck := spec_PointOk K1 K2
  rw [h] at ck
  have CK := hidIt ck
  have B0 := hidIt (((Below.refl w.heap.size w).alloc (Nat.le_refl _) (.cells #[.int .i64 K1, .int .i64 K2] 26)).alloc (by simp) (.cells #[.int .i64 R1, .int .i64 R2, .int .i64 T] 28))
  have z0 : w.heap.size < w.heap.size + 1 + 1 := by omega
  clear ck h
  go_enter Tryz.func47, Tryz.ntmps47
  go_wp2_with (fail)
  refine (CK.out _).mono ?_
  rintro e w1 ⟨rfl, hb1⟩
  have B1 := hidIt (below_next B0.out hb1)
  clear hb1
  go_wp2_with (fail)
  go_ret
  exact ⟨rfl, B1.out⟩
set_option maxRecDepth 100000 in
set_option maxHeartbeats 4000000 in
theorem spec_Valid_no2 (K1 K2 R1 R2 T : Int) (s : ByteArray) (w : World) (h : okI K1 K2 = true) (h2 : okI R1 R2 = false) :
    Calls Tryz.prog 47 #[.agg #[.int .i64 K1, .int .i64 K2], .string s, .agg #[.int .i64 R1, .int .i64 R2, .int .i64 T]] w fun e w' => e = .returned (.bool false) ∧ Below w.heap.size w w' := by
  have ck := spec_PointOk K1 K2
  rw [h] at ck
  have CK := hidIt ck
  have cr := spec_PointOk R1 R2
  rw [h2] at cr
  have CR := hidIt cr
  have F0 := hidIt (five_new w K1 K2 R1 R2 T 26 28)
  have B0 := hidIt (((Below.refl w.heap.size w).alloc (Nat.le_refl _) (.cells #[.int .i64 K1, .int .i64 K2] 26)).alloc (by simp) (.cells #[.int .i64 R1, .int .i64 R2, .int .i64 T] 28))
  have z0 : w.heap.size < w.heap.size + 1 + 1 := by omega
  clear ck cr h h2
  go_enter Tryz.func47, Tryz.ntmps47
  go_wp2_with (fail)
  refine (CK.out _).mono ?_
  rintro e w1 ⟨rfl, hb1⟩
  have F1 : Five w1 w.heap.size K1 K2 R1 R2 T := five_kept hb1 F0.out (by simp)
  have B1 := hidIt (below_next B0.out hb1)
  have z1 : w.heap.size + 1 < w1.heap.size := by have := hb1.size; simp at this; omega
  obtain ⟨a0, a1, a2, a3, a4⟩ := F1
  clear hb1
  go_wp2_with (fail)
  refine (CR.out _).mono ?_
  rintro e w2 ⟨rfl, hb2⟩
  have B2 := hidIt (below_next B1.out hb2)
  clear hb2
  go_wp2_with (fail)
  go_ret
  exact ⟨rfl, B2.out⟩
set_option maxRecDepth 100000 in
set_option maxHeartbeats 4000000 in
theorem spec_Valid_no3 (K1 K2 R1 R2 T : Int) (s : ByteArray) (w : World) (h : okI K1 K2 = true) (h2 : okI R1 R2 = true) (h3 : ¬ 0 ≤ T ∨ 0 ≤ T ∧ ¬ T ≤ 2548) :
    Calls Tryz.prog 47 #[.agg #[.int .i64 K1, .int .i64 K2], .string s, .agg #[.int .i64 R1, .int .i64 R2, .int .i64 T]] w fun e w' => e = .returned (.bool false) ∧ Below w.heap.size w w' := by
  have ck := spec_PointOk K1 K2
  rw [h] at ck
  have CK := hidIt ck
  have cr := spec_PointOk R1 R2
  rw [h2] at cr
  have CR := hidIt cr
  have F0 := hidIt (five_new w K1 K2 R1 R2 T 26 28)
  have B0 := hidIt (((Below.refl w.heap.size w).alloc (Nat.le_refl _) (.cells #[.int .i64 K1, .int .i64 K2] 26)).alloc (by simp) (.cells #[.int .i64 R1, .int .i64 R2, .int .i64 T] 28))
  have z0 : w.heap.size < w.heap.size + 1 + 1 := by omega
  clear ck cr h h2
  rcases h3 with h3 | ⟨h3, h4⟩
  all_goals
    (try have h6 : decide (T ≤ 2548) = false := by simpa using h4)
    (try clear h4)
    go_enter Tryz.func47, Tryz.ntmps47
    go_wp2_with (fail)
    refine (CK.out _).mono ?_
    rintro e w1 ⟨rfl, hb1⟩
    have F1 : Five w1 w.heap.size K1 K2 R1 R2 T := five_kept hb1 F0.out (by simp)
    have B1 := hidIt (below_next B0.out hb1)
    have z1 : w.heap.size + 1 < w1.heap.size := by have := hb1.size; simp at this; omega
    have H1 := hidIt F1
    obtain ⟨a0, a1, a2, a3, a4⟩ := F1
    clear hb1
    go_wp2_with (fail)
    refine (CR.out _).mono ?_
    rintro e w2 ⟨rfl, hb2⟩
    have F2 := H1.out.next hb2 z1
    have B2 := hidIt (below_next B1.out hb2)
    have z2 : w.heap.size + 1 < w2.heap.size := by have := hb2.size; omega
    obtain ⟨f0, f1, f2, f3, f4⟩ := F2
    clear hb2 a0 a1 a2 a3 a4
    go_wp2_with (first | (go_at_call 68; go_in) | fail)
    go_ret
    exact ⟨rfl, B2.out⟩
/-- Is it valid? Of two Points, a text and a number from 0 to 2548. -/
def vaN (k1 k2 r1 r2 T : Nat) (s : ByteArray) : Bool := ((ns (2791, 6375) T).1 : Int) == ((adN (r1, r2) ((ns (k1, k2) (chN r1 r2 k1 k2 s)).1, (ns (k1, k2) (chN r1 r2 k1 k2 s)).2)).1 : Int) && ((ns (2791, 6375) T).2 : Int) == ((adN (r1, r2) ((ns (k1, k2) (chN r1 r2 k1 k2 s)).1, (ns (k1, k2) (chN r1 r2 k1 k2 s)).2)).2 : Int)
theorem spec_Valid_yes (k1 k2 r1 r2 T : Nat) (s : ByteArray) (w : World) (hk : okN (k1, k2) = true) (hr : okN (r1, r2) = true) (hT : T < 2549) (hs : s.size ≤ 4611686018427380000) :
    Calls Tryz.prog 47 #[.agg #[.int .i64 k1, .int .i64 k2], .string s, .agg #[.int .i64 r1, .int .i64 r2, .int .i64 T]] w fun e w' => e = .returned (.bool (vaN k1 k2 r1 r2 T s)) ∧ Below w.heap.size w w' := by
  have ck := spec_PointOk k1 k2
  rw [okI_cast, hk] at ck
  have cr := spec_PointOk r1 r2
  rw [okI_cast, hr] at cr
  have bk := ok_le hk
  have br := ok_le hr
  have hc := chN_lt r1 r2 k1 k2 s
  have cc := fun w => l3Challenge_any r1 r2 k1 k2 s w br.1 br.2 bk.1 bk.2 hs
  rw [vaN.eq_1]
  generalize chN r1 r2 k1 k2 s = c at hc cc ⊢
  have cp := fun w => l2Times_any k1 k2 c w hk (by omega)
  have hq := ns_lt' hk c
  have cs := fun w => l2Added_any r1 r2 (ns (k1, k2) c).1 (ns (k1, k2) c).2 w (ok_el hr).1 (ok_el hr).2 hq.1 hq.2
  have ca := fun w => l2Times_any 2791 6375 T w ok_base (by omega)
  generalize ns (2791, 6375) T = A at ca ⊢
  generalize adN (r1, r2) ((ns (k1, k2) c).1, (ns (k1, k2) c).2) = S at cs ⊢
  generalize ns (k1, k2) c = P at cp cs
  exact spec_Valid_aux k1 k2 r1 r2 T c P.1 P.2 S.1 S.2 A.1 A.2 s w hT ck cr cc cp cs ca
theorem impl_Valid_yes (k1 k2 r1 r2 T : Nat) (s : ByteArray) (w : World) (hk : okN (k1, k2) = true) (hr : okN (r1, r2) = true) (hT : T < 2549) (hs : s.size ≤ 4611686018427380000) (ht : Tab w) :
    Calls Tryz.prog 59 #[.agg #[.int .i64 k1, .int .i64 k2], .string s, .agg #[.int .i64 r1, .int .i64 r2, .int .i64 T]] w fun e w' => e = .returned (.bool (vaN k1 k2 r1 r2 T s)) ∧ Below w.heap.size w w' := by
  have hc := chN_lt r1 r2 k1 k2 s
  have cc := fun w t => impl_Challenge_yes r1 r2 k1 k2 s w hr hk (by omega) t
  rw [vaN.eq_1]
  generalize chN r1 r2 k1 k2 s = c at hc cc ⊢
  have hp := ns_ok' hk c
  have cp := fun w => impl_Times_yes c k1 k2 w hk (by omega)
  have cs := fun w => impl_Added_yes r1 r2 (ns (k1, k2) c).1 (ns (k1, k2) c).2 w hr hp
  have ca := fun w => timesBase_any T w (by omega)
  exact impl_Valid_aux k1 k2 r1 r2 T c _ _ _ _ _ _ s w ht hT cc cp cs ca
/-- Both answer alike. -/
theorem valid_both (K1 K2 : Int) (s : ByteArray) (R1 R2 T : Int) (hs : s.size ≤ 4611686018427380000) : ∃ f : Bool,
    (∀ w, Calls Tryz.prog 47 #[.agg #[.int .i64 K1, .int .i64 K2], .string s, .agg #[.int .i64 R1, .int .i64 R2, .int .i64 T]] w fun e w' => e = .returned (.bool f) ∧ Below w.heap.size w w') ∧
    (∀ w, Tab w → Calls Tryz.prog 59 #[.agg #[.int .i64 K1, .int .i64 K2], .string s, .agg #[.int .i64 R1, .int .i64 R2, .int .i64 T]] w fun e w' => e = .returned (.bool f) ∧ Below w.heap.size w w') := by
  by_cases hr : okI R1 R2 = true
  · by_cases hk : okI K1 K2 = true
    · obtain ⟨r1, r2, rfl, rfl, hr1⟩ := okI_nat hr
      obtain ⟨k1, k2, rfl, rfl, hk1⟩ := okI_nat hk
      by_cases hT : 0 ≤ T ∧ T < 2549
      · obtain ⟨t, rfl⟩ := Int.eq_ofNat_of_zero_le hT.1
        exact ⟨vaN k1 k2 r1 r2 t s, fun w => spec_Valid_yes k1 k2 r1 r2 t s w hk1 hr1 (by omega) hs, fun w h => impl_Valid_yes k1 k2 r1 r2 t s w hk1 hr1 (by omega) hs h⟩
      · refine ⟨false, fun w => spec_Valid_no3 k1 k2 r1 r2 T s w hk hr (by omega), fun w h => impl_Valid_no k1 k2 r1 r2 T (chN r1 r2 k1 k2 s) s w h (.inr ?_) (fun w t => impl_Challenge_yes r1 r2 k1 k2 s w hr1 hk1 (by omega) t)⟩
        have hc : (((chN r1 r2 k1 k2 s : Nat) : Int) == -1) = false := by generalize chN r1 r2 k1 k2 s = c; simp
        by_cases h1 : T < 0
        · exact .inl ⟨hc, h1⟩
        · exact .inr ⟨hc, h1, by omega⟩
    · have hk' : okI K1 K2 = false := by simpa using hk
      exact ⟨false, fun w => spec_Valid_no1 K1 K2 R1 R2 T s w hk', fun w h => impl_Valid_no K1 K2 R1 R2 T (-1) s w h (.inl rfl) (fun w _ => impl_Challenge_no R1 R2 K1 K2 s w (.inr ⟨hr, hk'⟩))⟩
  · have hr' : okI R1 R2 = false := by simpa using hr
    refine ⟨false, fun w => ?_, fun w h => impl_Valid_no K1 K2 R1 R2 T (-1) s w h (.inl rfl) (fun w _ => impl_Challenge_no R1 R2 K1 K2 s w (.inl hr'))⟩
    by_cases hk : okI K1 K2 = true
    · exact spec_Valid_no2 K1 K2 R1 R2 T s w hk hr'
    · exact spec_Valid_no1 K1 K2 R1 R2 T s w (by simpa using hk)
end Go.Proofs.YtciikondckoboaaGreatDoor.Sg
namespace Go.Proofs.YtciikondckoboaaGreatDoor.Sg
open Go.ChangeShapes Go.WideShapes Go.ChangeAt Go.RowKit
open Cv Cu
def validB (K1 K2 : Int) (s : ByteArray) (R1 R2 T : Int) : Bool :=
  okI R1 R2 && (okI K1 K2 && (decide (0 ≤ T ∧ T < 2549) && vaN K1.toNat K2.toNat R1.toNat R2.toNat T.toNat s))
theorem validB_yes {k1 k2 r1 r2 t : Nat} (s : ByteArray) (hk : okN (k1, k2) = true) (hr : okN (r1, r2) = true) (hT : t < 2549) : validB k1 k2 s r1 r2 t = vaN k1 k2 r1 r2 t s := by
  unfold validB
  rw [okI_cast, hr, okI_cast, hk, decide_eq_true (by omega)]
  rfl
theorem validB_noR {K1 K2 R1 R2 T : Int} {s : ByteArray} (h : okI R1 R2 = false) : validB K1 K2 s R1 R2 T = false := by unfold validB; rw [h, Bool.false_and]
theorem validB_noK {K1 K2 R1 R2 T : Int} {s : ByteArray} (h : okI K1 K2 = false) : validB K1 K2 s R1 R2 T = false := by unfold validB; rw [h, Bool.false_and, Bool.and_false]
theorem validB_noT {K1 K2 R1 R2 T : Int} {s : ByteArray} (h : ¬ (0 ≤ T ∧ T < 2549)) : validB K1 K2 s R1 R2 T = false := by unfold validB; rw [decide_eq_false h, Bool.false_and, Bool.and_false, Bool.and_false]
theorem spec_Valid_any (K1 K2 : Int) (s : ByteArray) (R1 R2 T : Int) (w : World) (hs : s.size ≤ 4611686018427380000) :
    Calls Tryz.prog 47 #[.agg #[.int .i64 K1, .int .i64 K2], .string s, .agg #[.int .i64 R1, .int .i64 R2, .int .i64 T]] w fun e w' => e = .returned (.bool (validB K1 K2 s R1 R2 T)) ∧ Below w.heap.size w w' := by
  by_cases hk : okI K1 K2 = true
  · by_cases hr : okI R1 R2 = true
    · obtain ⟨r1, r2, rfl, rfl, hr1⟩ := okI_nat hr
      obtain ⟨k1, k2, rfl, rfl, hk1⟩ := okI_nat hk
      by_cases hT : 0 ≤ T ∧ T < 2549
      · obtain ⟨t, rfl⟩ := Int.eq_ofNat_of_zero_le hT.1
        rw [validB_yes s hk1 hr1 (by omega)]
        exact spec_Valid_yes k1 k2 r1 r2 t s w hk1 hr1 (by omega) hs
      · rw [validB_noT hT]
        exact spec_Valid_no3 k1 k2 r1 r2 T s w hk hr (by omega)
    · have hr' : okI R1 R2 = false := by simpa using hr
      rw [validB_noR hr']
      exact spec_Valid_no2 K1 K2 R1 R2 T s w hk hr'
  · have hk' : okI K1 K2 = false := by simpa using hk
    rw [validB_noK hk']
    exact spec_Valid_no1 K1 K2 R1 R2 T s w hk'
theorem impl_Valid_any (K1 K2 : Int) (s : ByteArray) (R1 R2 T : Int) (w : World) (h : Tab w) (hs : s.size ≤ 4611686018427380000) :
    Calls Tryz.prog 59 #[.agg #[.int .i64 K1, .int .i64 K2], .string s, .agg #[.int .i64 R1, .int .i64 R2, .int .i64 T]] w fun e w' => e = .returned (.bool (validB K1 K2 s R1 R2 T)) ∧ Below w.heap.size w w' := by
  by_cases hr : okI R1 R2 = true
  · by_cases hk : okI K1 K2 = true
    · obtain ⟨r1, r2, rfl, rfl, hr1⟩ := okI_nat hr
      obtain ⟨k1, k2, rfl, rfl, hk1⟩ := okI_nat hk
      by_cases hT : 0 ≤ T ∧ T < 2549
      · obtain ⟨t, rfl⟩ := Int.eq_ofNat_of_zero_le hT.1
        rw [validB_yes s hk1 hr1 (by omega)]
        exact impl_Valid_yes k1 k2 r1 r2 t s w hk1 hr1 (by omega) hs h
      · rw [validB_noT hT]
        refine impl_Valid_no k1 k2 r1 r2 T (chN r1 r2 k1 k2 s) s w h (.inr ?_) (fun w t => impl_Challenge_yes r1 r2 k1 k2 s w hr1 hk1 (by omega) t)
        have hc : (((chN r1 r2 k1 k2 s : Nat) : Int) == -1) = false := by generalize chN r1 r2 k1 k2 s = c; simp
        by_cases h1 : T < 0
        · exact .inl ⟨hc, h1⟩
        · exact .inr ⟨hc, h1, by omega⟩
    · have hk' : okI K1 K2 = false := by simpa using hk
      rw [validB_noK hk']
      exact impl_Valid_no K1 K2 R1 R2 T (-1) s w h (.inl rfl) (fun w _ => impl_Challenge_no R1 R2 K1 K2 s w (.inr ⟨hr, hk'⟩))
  · have hr' : okI R1 R2 = false := by simpa using hr
    rw [validB_noR hr']
    exact impl_Valid_no K1 K2 R1 R2 T (-1) s w h (.inl rfl) (fun w _ => impl_Challenge_no R1 R2 K1 K2 s w (.inl hr'))
end Go.Proofs.YtciikondckoboaaGreatDoor.Sg
namespace Go.Proofs.YtciikondckoboaaGreatDoor.Dd
open Go.ChangeShapes Go.WideShapes Go.ChangeAt Go.RowKit
open Cv Cu Sg
open Go.Proofs.YtciikondckoboaaGreatDoor.Bo (Box Box.new Box.newAt Box.kept Box.alloc Box.put Box.other Box.c Box.drew)
open Go.Proofs.YtciikondckoboaaGreatDoor.Ro (timB secB inB)
open Go.Proofs.YtciikondckoboaaGreatDoor.Ro (spec_l9Time)
open Go.Proofs.YtciikondckoboaaGreatDoor.Rc (BelowBy wp_region_below calls_below calls_same)
set_option linter.unusedVariables false
/-- The cells of a Seal, and the Seal. -/
abbrev sc (k1 k2 u r1 r2 t : Int) : Array Value := #[.int .i64 k1, .int .i64 k2, .int .i64 u, .int .i64 r1, .int .i64 r2, .int .i64 t]
abbrev sv (k1 k2 u r1 r2 t : Int) : Value := .agg (sc k1 k2 u r1 r2 t)
theorem ret_box {fn : Func} {tm : Array Value} {wf : World} {b : Nat} {c : Array Value} {v : Value} (t : Box wf b c) (h : ∀ w2, Box w2 b c → (results fn tm).run Tryz.prog w2 = .ok v w2) : (results fn tm).run Tryz.prog wf = .ok v wf := h wf t
/-- What is sealed: Until, a blank, the text. -/
def stx (u : Nat) (s : ByteArray) : ByteArray := numS u ++ Sg.blank ++ s
theorem stx_eq (u : Nat) (s : ByteArray) : stx u s = numS u ++ ⟨#[32]⟩ ++ s := rfl
theorem stx_size {u : Nat} {s : ByteArray} (hu : u ≤ 1099511627776) : (stx u s).size ≤ s.size + 22 := by
  have := numS_size u hu
  unfold stx
  rw [ByteArray.size_append, ByteArray.size_append, Sg.blank_size]
  omega
def holdsB (K1 K2 u R1 R2 T : Int) (s : ByteArray) (now : Int) : Bool :=
  timB u && (timB now && (decide (now < u) && validB K1 K2 (stx u.toNat s) R1 R2 T))
theorem tim_nat {u : Int} (h : timB u = true) : ∃ m : Nat, u = (m : Int) ∧ m ≤ 1000000 := by
  unfold timB inB at h
  simp only [Bool.and_eq_true, decide_eq_true_eq] at h
  exact ⟨u.toNat, by omega, by omega⟩
theorem sec_nat {u : Int} (h : secB u = true) : ∃ m : Nat, u = (m : Int) ∧ 0 < m ∧ m < 2549 := by
  unfold secB inB at h
  simp only [Bool.and_eq_true, decide_eq_true_eq] at h
  exact ⟨u.toNat, by omega, by omega, by omega⟩
set_option maxRecDepth 100000 in
set_option maxHeartbeats 4000000 in
theorem spec_l9Seal_aux (n u : Nat) (K1 K2 R1 R2 T : Int) (s x : ByteArray) (w : World) (hx : x.size ≤ 21) (hs : s.size ≤ 4611686018427370000)
    (cn : ∀ w, Calls Tryz.prog 37 #[.int .i64 u] w fun e w' => e = .returned (.string x) ∧ Below w.heap.size w w')
    (ck : ∀ w, Calls Tryz.prog 14 #[.int .i64 n, .agg #[.int .i64 2791, .int .i64 6375]] w fun e w' => e = .returned (.agg #[.int .i64 K1, .int .i64 K2]) ∧ Below w.heap.size w w')
    (cs : ∀ w, Calls Tryz.prog 36 #[.int .i64 n, .string (x ++ ⟨#[32]⟩ ++ s)] w fun e w' => e = .returned (.agg #[.int .i64 R1, .int .i64 R2, .int .i64 T]) ∧ Below w.heap.size w w') :
    Calls Tryz.prog 16 #[.int .i64 n, .string s, .int .i64 u] w fun e w' => e = .returned (sv K1 K2 u R1 R2 T) ∧ Below w.heap.size w w' := by
  have CK := hidIt ck
  have CN := hidIt cn
  have CS := hidIt cs
  have g0 : (⟨#[32]⟩ : ByteArray).size = 1 := rfl
  have g1 : ¬ 9223372036854775807 < x.size + 1 := by omega
  have g2 : ¬ 9223372036854775807 < x.size + 1 + s.size := by omega
  clear ck cn cs
  have BA := hidIt (Box.new w (sc 0 0 0 0 0 0) 30)
  have HB : Hid (Below w.heap.size w (w.alloc (.cells (sc 0 0 0 0 0 0) 30))) := hidIt ((Below.refl w.heap.size w).alloc (Nat.le_refl _) _)
  go_enter Tryz.func16, Tryz.ntmps16
  go_wp2_with (fail)
  refine (spec_Base _).mono ?_
  rintro e w1 ⟨rfl, k⟩
  replace BA := hidIt (BA.out.kept k)
  replace HB := hidIt (HB.out.trans (k.mono HB.out.size))
  clear k
  go_wp2_with (fail)
  refine (CK.out _).mono ?_
  rintro e w2 ⟨rfl, k⟩
  replace BA := hidIt (BA.out.kept k)
  replace HB := hidIt (HB.out.trans (k.mono HB.out.size))
  clear k
  go_wp2_with (fail)
  refine (CN.out _).mono ?_
  rintro e w3 ⟨rfl, k⟩
  replace BA := hidIt (BA.out.kept k)
  replace HB := hidIt (HB.out.trans (k.mono HB.out.size))
  clear k
  go_wp2_with (fail)
  refine (CS.out _).mono ?_
  rintro e w4 ⟨rfl, k⟩
  replace BA := hidIt (BA.out.kept k)
  replace HB := hidIt (HB.out.trans (k.mono HB.out.size))
  clear k
  have c0 := BA.out.c 0 rfl
  have c1 := BA.out.c 1 rfl
  have c2 := BA.out.c 2 rfl
  have c3 := BA.out.c 3 rfl
  have c4 := BA.out.c 4 rfl
  have c5 := BA.out.c 5 rfl
  have f0 := BA.out.fr 0
  have f1 := BA.out.fr 1
  have f2 := BA.out.fr 2
  have f3 := BA.out.fr 3
  have f4 := BA.out.fr 4
  have f5 := BA.out.fr 5
  go_wp2_with (fail)
  have BZ := (((((BA.out.put (c' := sc K1 0 0 0 0 0) 0 (.int .i64 K1) (by simp) rfl).put (c' := sc K1 K2 0 0 0 0) 1 (.int .i64 K2) (by simp) rfl).put (c' := sc K1 K2 u 0 0 0) 2 (.int .i64 u) (by simp) rfl).put (c' := sc K1 K2 u R1 0 0) 3 (.int .i64 R1) (by simp) rfl).put (c' := sc K1 K2 u R1 R2 0) 4 (.int .i64 R2) (by simp) rfl).put (c' := sc K1 K2 u R1 R2 T) 5 (.int .i64 T) (by simp) rfl
  refine bodyPost_ret (v := sv K1 K2 u R1 R2 T) ?_ rfl ⟨rfl, ?_⟩
  · refine ret_box BZ (fun w9 j => ?_)
    have j0 := j.c 0 rfl
    have j1 := j.c 1 rfl
    have j2 := j.c 2 rfl
    have j3 := j.c 3 rfl
    have j4 := j.c 4 rfl
    have j5 := j.c 5 rfl
    clear BZ c0 c1 c2 c3 c4 c5 f0 f1 f2 f3 f4 f5
    simp [results, Tryz.results16, go_sem, j0, j1, j2, j3, j4, j5]
  · exact ((((((HB.out.setCell (by simp) _).setCell (by simp) _).setCell (by simp) _).setCell (by simp) _).setCell (by simp) _).setCell (by simp) _)
theorem spec_l9Seal (n u : Nat) (s : ByteArray) (w : World) (hn : n < 2549) (hu : u ≤ 1000000) (hs : s.size ≤ 4611686018427370000) :
    Calls Tryz.prog 16 #[.int .i64 n, .string s, .int .i64 u] w fun e w' => e = .returned (sv (ns (2791, 6375) n).1 (ns (2791, 6375) n).2 u (sgR n (stx u s)).1 (sgR n (stx u s)).2 (sgT n (stx u s))) ∧ Below w.heap.size w w' := by
  have cs := fun w => l3Signed_any n (stx u s) w hn (by have := stx_size (u := u) (s := s) (by omega); omega)
  have cn := fun w => l1Int_any u w (by omega)
  have ck := fun w => l2Times_any 2791 6375 n w ok_base (by omega)
  generalize sgR n (stx u s) = R at cs ⊢
  generalize sgT n (stx u s) = T at cs ⊢
  generalize ns (2791, 6375) n = K at ck ⊢
  exact spec_l9Seal_aux n u K.1 K.2 R.1 R.2 T s (numS u) w (numS_size u (by omega)) hs cn ck cs
/-- The Seal of a secret, a time and a text. -/
def sealN (n u : Nat) (s : ByteArray) : Int × Int × Int × Int × Int × Int :=
  (((ns (2791, 6375) n).1 : Int), ((ns (2791, 6375) n).2 : Int), (u : Int), ((sgR n (stx u s)).1 : Int), ((sgR n (stx u s)).2 : Int), (sgT n (stx u s) : Int))
theorem sealN_eq (n u : Nat) (s : ByteArray) : sealN n u s = (((ns (2791, 6375) n).1 : Int), ((ns (2791, 6375) n).2 : Int), (u : Int), ((sgR n (stx u s)).1 : Int), ((sgR n (stx u s)).2 : Int), (sgT n (stx u s) : Int)) := sealN.eq_1 n u s
/-- SealOf's answer. -/
def sealR (n : Int) (s : ByteArray) (u : Int) : (Int × Int × Int × Int × Int × Int) × Bool :=
  if secB n && timB u then (sealN n.toNat u.toNat s, true) else ((0, 0, 0, 0, 0, 0), false)
abbrev svt (q : Int × Int × Int × Int × Int × Int) : Value := sv q.1 q.2.1 q.2.2.1 q.2.2.2.1 q.2.2.2.2.1 q.2.2.2.2.2
theorem sealR_yes {n u : Nat} {s : ByteArray} (h : secB n = true) (h' : timB u = true) : sealR n s u = (sealN n u s, true) := by
  unfold sealR
  rw [h, h', Int.toNat_natCast, Int.toNat_natCast]
  rfl
theorem sealR_no {n u : Int} {s : ByteArray} (h : secB n = false ∨ timB u = false) : sealR n s u = ((0, 0, 0, 0, 0, 0), false) := by
  unfold sealR
  rcases h with h | h
  · rw [h]; rfl
  · rw [h, Bool.and_false]; rfl
end Go.Proofs.YtciikondckoboaaGreatDoor.Dd
namespace Go.Proofs.YtciikondckoboaaGreatDoor.Dd
open Go.ChangeShapes Go.WideShapes Go.ChangeAt Go.RowKit
open Cv Cu Sg
open Go.Proofs.YtciikondckoboaaGreatDoor.Bo (Box Box.new Box.newAt Box.kept Box.alloc Box.put Box.other Box.c Box.drew)
open Go.Proofs.YtciikondckoboaaGreatDoor.Ro (timB secB inB)
open Go.Proofs.YtciikondckoboaaGreatDoor.Ro (spec_l9Time)
open Go.Proofs.YtciikondckoboaaGreatDoor.Rc (BelowBy wp_region_below calls_below calls_same)
set_option linter.unusedVariables false
set_option maxRecDepth 100000 in
set_option maxHeartbeats 4000000 in
theorem spec_Holds (K1 K2 u R1 R2 T : Int) (s : ByteArray) (now : Int) (w : World) (hs : s.size ≤ 4611686018427370000) :
    Calls Tryz.prog 27 #[sv K1 K2 u R1 R2 T, .string s, .int .i64 now] w fun e w' => e = .returned (.bool (holdsB K1 K2 u R1 R2 T s now)) ∧ Below w.heap.size w w' := by
  have CU := hidIt (fun W => spec_l9Time u W)
  have CN := hidIt (fun W => spec_l9Time now W)
  have CI : Hid (timB u = true → ∀ W, Calls Tryz.prog 37 #[.int .i64 u] W fun e w' => e = .returned (.string (numS u.toNat)) ∧ Below W.heap.size W w') := hidIt (fun h W => by
    obtain ⟨m, rfl, hm⟩ := tim_nat h
    exact l1Int_any m W (by omega))
  have hx : timB u = true → (numS u.toNat).size ≤ 21 := fun h => by
    obtain ⟨m, rfl, hm⟩ := tim_nat h
    exact numS_size m (by omega)
  have CV : Hid (timB u = true → ∀ W, Calls Tryz.prog 47 #[.agg #[.int .i64 K1, .int .i64 K2], .string (numS u.toNat ++ ⟨#[32]⟩ ++ s), .agg #[.int .i64 R1, .int .i64 R2, .int .i64 T]] W fun e w' => e = .returned (.bool (validB K1 K2 (stx u.toNat s) R1 R2 T)) ∧ Below W.heap.size W w') := hidIt (fun h W => by
    obtain ⟨m, rfl, hm⟩ := tim_nat h
    exact spec_Valid_any K1 K2 (stx m s) R1 R2 T W (by have := stx_size (u := m) (s := s) (by omega); omega))
  unfold holdsB
  generalize validB K1 K2 (stx u.toNat s) R1 R2 T = va at CV ⊢
  generalize numS u.toNat = x at CI CV hx
  generalize timB now = tn at *
  cases htu : timB u with
  | false =>
    rw [htu] at CU
    clear hx CV CI htu
    have BA := Box.new w (sc K1 K2 u R1 R2 T) 30
    have HB : Hid (Below w.heap.size w (w.alloc (.cells (sc K1 K2 u R1 R2 T) 30))) := hidIt ((Below.refl w.heap.size w).alloc (Nat.le_refl _) _)
    go_enter Tryz.func27, Tryz.ntmps27
    go_upto_region 1 with fail
    generalize w.alloc (.cells (sc K1 K2 u R1 R2 T) 30) = wz at BA HB ⊢
    haveI := BelowBy.one wz
    have g0 := fun p : BelowBy wz => p.cell (BA.c 0 (v := .int .i64 K1) rfl)
    have g1 := fun p : BelowBy wz => p.cell (BA.c 1 (v := .int .i64 K2) rfl)
    have g2 := fun p : BelowBy wz => p.cell (BA.c 2 (v := .int .i64 u) rfl)
    have g3 := fun p : BelowBy wz => p.cell (BA.c 3 (v := .int .i64 R1) rfl)
    have g4 := fun p : BelowBy wz => p.cell (BA.c 4 (v := .int .i64 R2) rfl)
    have g5 := fun p : BelowBy wz => p.cell (BA.c 5 (v := .int .i64 T) rfl)
    clear BA
    refine wp_region_below (by kernel_rfl) (by kernel_rfl) ?_
    repeat (go_big_quiet_step (first | (go_at_call 46; first | (with_reducible exact calls_same (CU.out _)) | (with_reducible exact calls_same (CN.out _)))))
    refine wpQuiet_nil ?_
    intro _ hw'
    obtain ⟨pq, rfl⟩ := hw'
    have k2 := pq.h
    generalize pq.world = w2 at k2 ⊢
    replace HB := hidIt (HB.out.trans (k2.mono HB.out.size))
    clear k2 g0 g1 g2 g3 g4 g5
    go_wp2_with (fail)
    go_ret
    exact ⟨rfl, HB.out⟩
  | true =>
    replace CI := hidIt (CI.out htu)
    replace CV := hidIt (CV.out htu)
    replace hx := hx htu
    rw [htu] at CU
    clear htu
    have q0 : (⟨#[32]⟩ : ByteArray).size = 1 := rfl
    have q1 : ¬ 9223372036854775807 < x.size + 1 := by omega
    have q2 : ¬ 9223372036854775807 < x.size + 1 + s.size := by omega
    cases tn with
    | false =>
      have BA := Box.new w (sc K1 K2 u R1 R2 T) 30
      have HB : Hid (Below w.heap.size w (w.alloc (.cells (sc K1 K2 u R1 R2 T) 30))) := hidIt ((Below.refl w.heap.size w).alloc (Nat.le_refl _) _)
      go_enter Tryz.func27, Tryz.ntmps27
      go_upto_region 1 with fail
      generalize w.alloc (.cells (sc K1 K2 u R1 R2 T) 30) = wz at BA HB ⊢
      haveI := BelowBy.one wz
      have g0 := fun p : BelowBy wz => p.cell (BA.c 0 (v := .int .i64 K1) rfl)
      have g1 := fun p : BelowBy wz => p.cell (BA.c 1 (v := .int .i64 K2) rfl)
      have g2 := fun p : BelowBy wz => p.cell (BA.c 2 (v := .int .i64 u) rfl)
      have g3 := fun p : BelowBy wz => p.cell (BA.c 3 (v := .int .i64 R1) rfl)
      have g4 := fun p : BelowBy wz => p.cell (BA.c 4 (v := .int .i64 R2) rfl)
      have g5 := fun p : BelowBy wz => p.cell (BA.c 5 (v := .int .i64 T) rfl)
      clear BA
      refine wp_region_below (by kernel_rfl) (by kernel_rfl) ?_
      repeat (go_big_quiet_step (first | (go_at_call 46; first | (with_reducible exact calls_same (CU.out _)) | (with_reducible exact calls_same (CN.out _)))))
      refine wpQuiet_nil ?_
      intro _ hw'
      obtain ⟨pq, rfl⟩ := hw'
      have k2 := pq.h
      generalize pq.world = w2 at k2 ⊢
      replace HB := hidIt (HB.out.trans (k2.mono HB.out.size))
      clear k2 g0 g1 g2 g3 g4 g5
      go_wp2_with (fail)
      go_ret
      exact ⟨rfl, HB.out⟩
    | true =>
      by_cases hlt : now < u
      · have hd : decide (now < u) = true := decide_eq_true hlt
        rw [hd]
        have BA := Box.new w (sc K1 K2 u R1 R2 T) 30
        have HB : Hid (Below w.heap.size w (w.alloc (.cells (sc K1 K2 u R1 R2 T) 30))) := hidIt ((Below.refl w.heap.size w).alloc (Nat.le_refl _) _)
        go_enter Tryz.func27, Tryz.ntmps27
        go_upto_region 1 with fail
        generalize w.alloc (.cells (sc K1 K2 u R1 R2 T) 30) = wz at BA HB ⊢
        haveI := BelowBy.one wz
        have g0 := fun p : BelowBy wz => p.cell (BA.c 0 (v := .int .i64 K1) rfl)
        have g1 := fun p : BelowBy wz => p.cell (BA.c 1 (v := .int .i64 K2) rfl)
        have g2 := fun p : BelowBy wz => p.cell (BA.c 2 (v := .int .i64 u) rfl)
        have g3 := fun p : BelowBy wz => p.cell (BA.c 3 (v := .int .i64 R1) rfl)
        have g4 := fun p : BelowBy wz => p.cell (BA.c 4 (v := .int .i64 R2) rfl)
        have g5 := fun p : BelowBy wz => p.cell (BA.c 5 (v := .int .i64 T) rfl)
        clear BA
        refine wp_region_below (by kernel_rfl) (by kernel_rfl) ?_
        repeat (go_big_quiet_step (first | (go_at_call 46; first | (with_reducible exact calls_same (CU.out _)) | (with_reducible exact calls_same (CN.out _))) | (go_at_call 37; exact calls_below (CI.out _)) | (go_at_call 47; exact calls_below (CV.out _))))
        refine wpQuiet_nil ?_
        intro _ hw'
        obtain ⟨pq, rfl⟩ := hw'
        have k2 := pq.h
        generalize pq.world = w2 at k2 ⊢
        replace HB := hidIt (HB.out.trans (k2.mono HB.out.size))
        clear k2 g0 g1 g2 g3 g4 g5
        go_wp2_with (fail)
        go_ret
        exact ⟨by cases va <;> rfl, HB.out⟩
      · have hd : decide (now < u) = false := decide_eq_false hlt
        rw [hd]
        have BA := Box.new w (sc K1 K2 u R1 R2 T) 30
        have HB : Hid (Below w.heap.size w (w.alloc (.cells (sc K1 K2 u R1 R2 T) 30))) := hidIt ((Below.refl w.heap.size w).alloc (Nat.le_refl _) _)
        go_enter Tryz.func27, Tryz.ntmps27
        go_upto_region 1 with fail
        generalize w.alloc (.cells (sc K1 K2 u R1 R2 T) 30) = wz at BA HB ⊢
        haveI := BelowBy.one wz
        have g0 := fun p : BelowBy wz => p.cell (BA.c 0 (v := .int .i64 K1) rfl)
        have g1 := fun p : BelowBy wz => p.cell (BA.c 1 (v := .int .i64 K2) rfl)
        have g2 := fun p : BelowBy wz => p.cell (BA.c 2 (v := .int .i64 u) rfl)
        have g3 := fun p : BelowBy wz => p.cell (BA.c 3 (v := .int .i64 R1) rfl)
        have g4 := fun p : BelowBy wz => p.cell (BA.c 4 (v := .int .i64 R2) rfl)
        have g5 := fun p : BelowBy wz => p.cell (BA.c 5 (v := .int .i64 T) rfl)
        clear BA
        refine wp_region_below (by kernel_rfl) (by kernel_rfl) ?_
        repeat (go_big_quiet_step (first | (go_at_call 46; first | (with_reducible exact calls_same (CU.out _)) | (with_reducible exact calls_same (CN.out _)))))
        refine wpQuiet_nil ?_
        intro _ hw'
        obtain ⟨pq, rfl⟩ := hw'
        have k2 := pq.h
        generalize pq.world = w2 at k2 ⊢
        replace HB := hidIt (HB.out.trans (k2.mono HB.out.size))
        clear k2 g0 g1 g2 g3 g4 g5
        go_wp2_with (fail)
        go_ret
        exact ⟨rfl, HB.out⟩
end Go.Proofs.YtciikondckoboaaGreatDoor.Dd
namespace Go.Proofs.YtciikondckoboaaGreatDoor.Pt
open Go.ChangeShapes Go.WideShapes Go.ChangeAt Go.RowKit
set_option linter.unusedVariables false
theorem hidIt {p : Prop} (h : p) : Hid p := h
/-- A Point: X and Y. -/
abbrev Ln := Int × Int
def lat (L : List Ln) (i : Nat) : Ln := L.getD i (0, 0)
theorem lat_take {L : List Ln} {n i : Nat} (h : i < n) : lat (L.take n) i = lat L i := by
  unfold lat
  rw [List.getD_eq_getElem?_getD, List.getD_eq_getElem?_getD, List.getElem?_take, if_pos h]
theorem lat_append_left {L M : List Ln} {i : Nat} (h : i < L.length) : lat (L ++ M) i = lat L i := by
  unfold lat
  rw [List.getD_eq_getElem?_getD, List.getD_eq_getElem?_getD, List.getElem?_append_left h]
theorem lat_append_at {L : List Ln} {x : Ln} : lat (L ++ [x]) L.length = x := by
  unfold lat
  rw [List.getD_eq_getElem?_getD, List.getElem?_append_right (Nat.le_refl _)]
  simp
theorem lat_set {L : List Ln} {i j : Nat} {x : Ln} (h : i < L.length) : lat (L.set i x) j = if i = j then x else lat L j := by
  unfold lat
  rw [List.getD_eq_getElem?_getD, List.getD_eq_getElem?_getD, List.getElem?_set]
  by_cases e : i = j
  · subst e; simp [h]
  · simp [e]
theorem lat_getElem? {L : List Ln} {i : Nat} (h : i < L.length) : L[i]? = some (lat L i) := by
  unfold lat
  rw [List.getD_eq_getElem?_getD, List.getElem?_eq_getElem h]; rfl
theorem ext_lat {L M : List Ln} (h : L.length = M.length) (e : ∀ i, i < L.length → lat L i = lat M i) : L = M := by
  apply List.ext_getElem? ; intro i
  by_cases hi : i < L.length
  · rw [lat_getElem? hi, lat_getElem? (by omega), e i hi]
  · rw [List.getElem?_eq_none (by omega), List.getElem?_eq_none (by omega)]
/-- The cells of a list. -/
def lcells : List Ln → List Value
  | [] => []
  | x :: r => .int .i64 x.1 :: .int .i64 x.2 :: lcells r
theorem lcells_nil : lcells [] = [] := rfl
theorem lcells_cons (x : Ln) (r : List Ln) : lcells (x :: r) = .int .i64 x.1 :: .int .i64 x.2 :: lcells r := rfl
theorem lcells_length (L : List Ln) : (lcells L).length = L.length * 2 := by
  induction L with
  | nil => rfl
  | cons x r ih => rw [lcells_cons, List.length_cons, List.length_cons, ih, List.length_cons]; omega
theorem lcells_append (L M : List Ln) : lcells (L ++ M) = lcells L ++ lcells M := by
  induction L with
  | nil => rfl
  | cons x r ih => rw [List.cons_append, lcells_cons, lcells_cons, ih]; rfl
theorem lcells_text (L : List Ln) : ∀ i, i < L.length → (lcells L)[i * 2]? = some (.int .i64 (lat L i).1) := by
  induction L with
  | nil => intro i hi; simp at hi
  | cons x r ih =>
    intro i hi
    cases i with
    | zero => rfl
    | succ k =>
      rw [lcells_cons, show (k + 1) * 2 = k * 2 + 1 + 1 from by omega, List.getElem?_cons_succ, List.getElem?_cons_succ, ih k (by simp at hi; omega)]
      rfl
theorem lcells_sum (L : List Ln) : ∀ i, i < L.length → (lcells L)[i * 2 + 1]? = some (.int .i64 (lat L i).2) := by
  induction L with
  | nil => intro i hi; simp at hi
  | cons x r ih =>
    intro i hi
    cases i with
    | zero => rfl
    | succ k =>
      rw [lcells_cons, show (k + 1) * 2 + 1 = k * 2 + 1 + 1 + 1 from by omega, List.getElem?_cons_succ, List.getElem?_cons_succ, ih k (by simp at hi; omega)]
      rfl
theorem lcells_set_text (L : List Ln) (s : Int) : ∀ i, i < L.length → (lcells L).set (i * 2) (.int .i64 s) = lcells (L.set i (s, (lat L i).2)) := by
  induction L with
  | nil => intro i hi; simp at hi
  | cons x r ih =>
    intro i hi
    cases i with
    | zero => rfl
    | succ k =>
      rw [lcells_cons, show (k + 1) * 2 = k * 2 + 1 + 1 from by omega, List.set_cons_succ, List.set_cons_succ, ih k (by simp at hi; omega)]
      rfl
theorem lcells_set_sum (L : List Ln) (n : Int) : ∀ i, i < L.length → (lcells L).set (i * 2 + 1) (.int .i64 n) = lcells (L.set i ((lat L i).1, n)) := by
  induction L with
  | nil => intro i hi; simp at hi
  | cons x r ih =>
    intro i hi
    cases i with
    | zero => rfl
    | succ k =>
      rw [lcells_cons, show (k + 1) * 2 + 1 = k * 2 + 1 + 1 + 1 from by omega, List.set_cons_succ, List.set_cons_succ, ih k (by simp at hi; omega)]
      rfl
theorem lcells_one (L : List Ln) : ∀ u ∈ lcells L, u.oneCell' = true := by
  induction L with
  | nil => intro u hu; cases hu
  | cons x r ih =>
    intro u hu
    rw [lcells_cons] at hu
    rcases List.mem_cons.1 hu with rfl | hu
    · rfl
    rcases List.mem_cons.1 hu with rfl | hu
    · rfl
    exact ih u hu
theorem lat_zero (n i : Nat) : lat (List.replicate n (0, 0)) i = (0, 0) := by
  unfold lat
  rw [List.getD_eq_getElem?_getD, List.getElem?_replicate]
  split <;> rfl
theorem lcells_zero (n : Nat) : lcells (List.replicate n (0, 0)) = (madeCells #[.int .i64 0, .int .i64 0] (n * 2)).toList := by
  apply List.ext_getElem?
  intro j
  rcases Nat.lt_or_ge j (n * 2) with hj | hj
  · have h2 : j / 2 < (List.replicate n ((0, 0) : Ln)).length := by simp; omega
    rcases Nat.mod_two_eq_zero_or_one j with e | e
    · have := lcells_text _ _ h2
      rw [show j / 2 * 2 = j from by omega] at this
      rw [this, lat_zero]
      simp [madeCells, hj, e]
    · have := lcells_sum _ _ h2
      rw [show j / 2 * 2 + 1 = j from by omega] at this
      rw [this, lat_zero]
      simp [madeCells, hj, e]
  · rw [List.getElem?_eq_none (by rw [lcells_length]; simp; omega), List.getElem?_eq_none (by simp [madeCells]; omega)]
/-- A slice at address a reads as the list L. -/
structure Rd (w : World) (a : Option Addr) (L : List Ln) : Prop where
  cell : ∀ i, i < L.length → ∃ b off, a = some ⟨b, off, none⟩ ∧ w.cell? ⟨b, off + i * 2, none⟩ = some (.int .i64 (lat L i).1) ∧ w.cell? ⟨b, off + i * 2 + 1, none⟩ = some (.int .i64 (lat L i).2)
theorem cell_block {w : World} {b o : Nat} {v : Value} (h : w.cell? ⟨b, o, none⟩ = some v) : b < w.heap.size := World.block_lt_of_cell? w ⟨b, o, none⟩ h
theorem Rd.kept {w w' : World} {a : Option Addr} {L : List Ln} (h : Rd w a L) (k : Below w.heap.size w w') : Rd w' a L :=
  ⟨fun i hi => by
    obtain ⟨b, off, e, c0, c1⟩ := h.cell i hi
    exact ⟨b, off, e, by rw [k.cell (by simpa using cell_block c0)]; exact c0, by rw [k.cell (by simpa using cell_block c1)]; exact c1⟩⟩
theorem Rd.alloc {w : World} {a : Option Addr} {L : List Ln} (h : Rd w a L) (o : Obj) : Rd (w.alloc o) a L := h.kept ((Below.refl _ _).alloc (Nat.le_refl _) o)
theorem Rd.drew {w : World} {a : Option Addr} {L : List Ln} (h : Rd w a L) : Rd w.drew a L := ⟨h.cell⟩
theorem Rd.take {w : World} {a : Option Addr} {L : List Ln} (h : Rd w a L) (n : Nat) : Rd w a (L.take n) :=
  ⟨fun i hi => by
    rw [List.length_take] at hi
    rw [lat_take (by omega)]
    exact h.cell i (by omega)⟩
theorem Rd.nil (w : World) (a : Option Addr) : Rd w a [] := ⟨fun i hi => by simp at hi⟩
/-- The slice v owns the Points L in a row of the call's own. -/
def Own (w : World) (base : Nat) (v : Value) (L : List Ln) : Prop := w.ownsRow base 26 2 v L.length (lcells L)
theorem Own.form {w : World} {base : Nat} {v : Value} {L : List Ln} (h : Own w base v L) : ∃ a cap, v = .slice a L.length cap ∧ L.length ≤ cap ∧ cap ≤ maxLen ∧ Rd w a L ∧ (a = none → cap = 0) ∧ (∀ x, a = some x → ∃ g, x = ⟨g, 0, none⟩ ∧ base ≤ g ∧ g < w.heap.size) := by
  have h' := h
  rcases h.2 with ⟨rfl, h0⟩ | ⟨g, cap, cur, rfl, hb, hg, hn, hm, rest⟩
  · exact ⟨none, 0, by rw [h0], by omega, by decide, ⟨fun i hi => by omega⟩, fun _ => rfl, fun x hx => by cases hx⟩
  · refine ⟨some ⟨g, 0, none⟩, cap, rfl, hn, hm, ⟨fun i hi => ⟨g, 0, rfl, ?_, ?_⟩⟩, (fun e => by cases e), fun x hx => ⟨g, by cases hx; rfl, hb, (Array.getElem?_eq_some_iff.1 hg).1⟩⟩
    · rw [Nat.zero_add, World.ownsRow.cellAt h' _ (by omega), lcells_text _ _ hi]
    · rw [Nat.zero_add, World.ownsRow.cellAt h' _ (by omega), lcells_sum _ _ hi]
theorem Own.kept {w w' : World} {base : Nat} {v : Value} {L : List Ln} (h : Own w base v L) (k : Below w.heap.size w w') : Own w' base v L :=
  World.ownsRow.kept (row := none) h ⟨k.os, k.tape, k.output, k.size, fun i hi _ => k.block i hi⟩ (by cases v.ownBlock <;> simp)
theorem Own.alloc {w : World} {base : Nat} {v : Value} {L : List Ln} (h : Own w base v L) (o : Obj) : Own (w.alloc o) base v L := World.ownsRow.alloc h o
theorem Own.only {w w' : World} {base c : Nat} {v : Value} {L : List Ln} (h : Own w base v L) (k : Only c w w') (hc : c < base ∨ ∀ g, v.ownBlock = some g → g ≠ c) : Own w' base v L := by
  refine World.ownsRow.kept h (row := some c) ⟨k.os, k.tape, k.output, k.size, fun i hi hne => k.block i hi (fun e => hne (by rw [e]))⟩ ?_
  cases hv : v.ownBlock with
  | none => exact .inl rfl
  | some g =>
    refine .inr (fun e => ?_)
    cases e
    rcases hc with hc | hc
    · have := (World.ownsRow.lt h _ hv).1; omega
    · exact hc _ hv rfl
theorem Own.mono {w : World} {base b' : Nat} {v : Value} {L : List Ln} (h : Own w base v L) (hb : b' ≤ base) : Own w b' v L := by
  refine ⟨h.1, ?_⟩
  rcases h.2 with h0 | ⟨g, cap, cur, e, hb', r⟩
  · exact .inl h0
  · exact .inr ⟨g, cap, cur, e, by omega, r⟩
theorem Own.new (w : World) : Own (w.alloc (.cells #[] 26)) w.heap.size (.slice (some ⟨w.heap.size, 0, none⟩) 0 0) [] :=
  World.ownsRow_made w #[] 0 (Nat.le_refl _) (by decide) rfl
/-- A store into the X or the Y of Point i. -/
theorem Own.text {w : World} {base g n cap i : Nat} {L : List Ln} (h : Own w base (.slice (some ⟨g, 0, none⟩) n cap) L) (hi : i < L.length) (s : Int) :
    Own (w.setCell ⟨g, i * 2, none⟩ (.int .i64 s)) base (.slice (some ⟨g, 0, none⟩) n cap) (L.set i (s, (lat L i).2)) := by
  obtain ⟨a, c', e, _⟩ := h.form
  cases e
  have := (World.ownsRow.stored h (i * 2) (.int .i64 s)).1
  rw [lcells_set_text _ _ _ hi] at this
  unfold Own
  rw [List.length_set]
  exact this
theorem Own.sum {w : World} {base g n cap i : Nat} {L : List Ln} (h : Own w base (.slice (some ⟨g, 0, none⟩) n cap) L) (hi : i < L.length) (x : Int) :
    Own (w.setCell ⟨g, i * 2 + 1, none⟩ (.int .i64 x)) base (.slice (some ⟨g, 0, none⟩) n cap) (L.set i ((lat L i).1, x)) := by
  obtain ⟨a, c', e, _⟩ := h.form
  cases e
  have := (World.ownsRow.stored h (i * 2 + 1) (.int .i64 x)).1
  rw [lcells_set_sum _ _ _ hi] at this
  unfold Own
  rw [List.length_set]
  exact this
theorem Own.free {w : World} {base g n cap : Nat} {L : List Ln} (h : Own w base (.slice (some ⟨g, 0, none⟩) n cap) L) (j : Nat) : w.frozen? ⟨g, j, none⟩ = false := by
  obtain ⟨a, c', e, _⟩ := h.form
  cases e
  exact World.ownsRow.frozenAt h j
theorem Own.at {w : World} {base g n cap i : Nat} {L : List Ln} (h : Own w base (.slice (some ⟨g, 0, none⟩) n cap) L) (hi : i < L.length) :
    w.cell? ⟨g, i * 2, none⟩ = some (.int .i64 (lat L i).1) ∧ w.cell? ⟨g, i * 2 + 1, none⟩ = some (.int .i64 (lat L i).2) ∧ w.frozen? ⟨g, i * 2, none⟩ = false ∧ w.frozen? ⟨g, i * 2 + 1, none⟩ = false := by
  obtain ⟨a', c', e1, _, _, r, _⟩ := h.form
  cases e1
  obtain ⟨b', o', e2, k0, k1⟩ := r.cell i hi
  cases e2
  exact ⟨by simpa using k0, by simpa using k1, h.free _, h.free _⟩
theorem Own.line {w : World} {base g n cap i : Nat} {L : List Ln} (h : Own w base (.slice (some ⟨g, 0, none⟩) n cap) L) (hi : i < L.length) (s : Int) (x : Int) :
    Own ((w.setCell ⟨g, i * 2, none⟩ (.int .i64 s)).setCell ⟨g, i * 2 + 1, none⟩ (.int .i64 x)) base (.slice (some ⟨g, 0, none⟩) n cap) (L.set i (s, x)) := by
  have := (h.text hi s).sum (i := i) (by rw [List.length_set]; exact hi) x
  rw [lat_set hi, if_pos rfl, List.set_set] at this
  exact this
theorem grown_below {w w' : World} {base B : Nat} {v : Value} {L : List Ln} (h : Own w base v L) (g : w.grownBy w' v.ownBlock) (hB : B ≤ base) (hs : B ≤ w.heap.size) : Below B w w' :=
  ⟨g.os, g.tape, g.output, g.size, fun k hk => g.block k (by omega) (fun e => by have := (World.ownsRow.lt h k e.symm).1; omega)⟩
theorem Own.more {w : World} {base : Nat} {v : Value} {L : List Ln} {x : Ln} (h : w.ownsRow base 26 2 v (L.length + 1) (lcells L ++ [.int .i64 x.1, .int .i64 x.2])) : Own w base v (L ++ [x]) := by
  unfold Own
  rw [List.length_append, lcells_append]
  exact h
/-- The slice at a, of capacity cap, that came in reads as L. -/
structure In (w : World) (a : Option Addr) (cap : Nat) (L : List Ln) : Prop where
  rd : Rd w a L
  le : L.length ≤ cap
  cap : cap ≤ 9223372036854775807
end Go.Proofs.YtciikondckoboaaGreatDoor.Pt
