/-
  The program's Proves: slices.Contains, between, Proves.
-/
import Derived.Test.YtkclfnmhiojklaaDenP
import Derived.Test.YtkclfnmhiojklaaNameN
import Derived.Test.YtkclfnmhiojklaaNameM
import Derived.Test.YtkclfnmhiojklaaNameL
import Derived.Test.YtkclfnmhiojklaaAllN
namespace Go.Proofs.Ytkclfnmhiojklaa.Zn
open Go.ChangeShapes Go.WideShapes Go.ChangeAt Go.RowKit
set_option linter.unusedVariables false
open Go.Proofs.Ytkclfnmhiojklaa.Nm (Bytes bs B bs_length bs_inj okB hidIt impl_Before impl_Under impl_NameOk underL beforeL under_both before_both)
open Go.Proofs.Ytkclfnmhiojklaa.Iv (iat iat_at)
set_option maxRecDepth 100000 in
set_option maxHeartbeats 4000000 in
theorem index_any (a : Option Addr) (cap : Nat) (L : List Int) (x : Int) (w : World) (h : Iv.Rd w a L) (hl : L.length ≤ 9223372036854775806) :
    Calls Try.prog 24 #[.slice a L.length cap, .int .i64 x] w fun e w' => ∃ r : Int, e = .returned (.int .i64 r) ∧ decide (0 ≤ r) = decide (x ∈ L) ∧ w' = w := by
  have hall : Hid (∀ i, i < L.length → iat L i = x → decide (x ∈ L) = true) := hidIt (fun i hi e => by
    rw [iat_at hi] at e
    exact decide_eq_true (e ▸ List.getElem_mem hi))
  have hnone : Hid ((∀ i, i < L.length → iat L i ≠ x) → decide (x ∈ L) = false) := hidIt (fun hh => by
    refine decide_eq_false (fun hm => ?_)
    obtain ⟨i, hi, e⟩ := List.mem_iff_getElem.1 hm
    exact hh i hi (by rw [iat_at hi]; exact e))
  generalize decide (x ∈ L) = r at hall hnone
  generalize hn : L.length = n at *
  have HR := hidIt h
  have HN := hidIt hn
  clear h hn
  go_enter Try.func24, Try.ntmps24
  go_wp2_with (fail)
  go_loopw [8] (fun y wx => ∃ i : Nat, y = .int .i64 i ∧ i ≤ n ∧ Hid (∀ j, j < i → iat L j ≠ x) ∧ Hid (wx = w)) (fun y _ => (n - intOf y).toNat)
  case atStart => exact ⟨0, rfl, by omega, hidIt (fun j hj => by omega), hidIt rfl⟩
  case round =>
    obtain ⟨i, rfl, hi, hE, HW⟩ := hrel
    have ew := HW.out
    subst ew
    by_cases hin : i < n
    · have hin' : (i : Int) < (n : Int) := by omega
      obtain ⟨b, off, rfl, c0⟩ := HR.out.cell i (by rw [HN.out]; exact hin)
      generalize hx : iat L i = s at c0
      by_cases es : s = x
      · have er := hall.out i hin (hx.trans es)
        subst es er
        have e2 : (s == s) = true := by simp
        clear hx hall hnone
        go_wp2_with (fail)
        go_ret
        exact ⟨i, rfl, by simp, rfl⟩
      · have e2 : (x == s) = false := by simp; omega
        have hE' : Hid (∀ j, j < i + 1 → iat L j ≠ x) := hidIt (fun j hj => by
          rcases Nat.lt_succ_iff_lt_or_eq.1 hj with h | h
          · exact hE.out j h
          · subst h; rw [hx]; exact es)
        clear hx hE
        go_wp2_with (fail)
        exact ⟨⟨i + 1, by simp, by omega, hE', by first | exact hidIt rfl | exact hidIt trivial⟩, by simp [intOf]; omega⟩
    · have hin' : ¬ (i : Int) < (n : Int) := by omega
      have ei : i = n := by omega
      subst ei
      have er := hnone.out hE.out
      subst er
      go_wp2_with (fail)
      go_ret
      exact ⟨-1, rfl, by decide, rfl⟩
set_option maxRecDepth 100000 in
theorem contains_any (a : Option Addr) (cap : Nat) (L : List Int) (x : Int) (w : World) (h : Iv.Rd w a L) (hl : L.length ≤ 9223372036854775806) :
    Calls Try.prog 17 #[.slice a L.length cap, .int .i64 x] w fun e w' => e = .returned (.bool (decide (x ∈ L))) ∧ w' = w := by
  have CI := hidIt (index_any a cap L x w h hl)
  generalize decide (x ∈ L) = q at CI ⊢
  go_enter Try.func17, Try.ntmps17
  go_wp2_with (fail)
  refine CI.out.mono ?_
  rintro e w1 ⟨r, rfl, hr, rfl⟩
  subst hr
  go_wp2_with (fail)
  go_ret
  try exact ⟨rfl, rfl⟩
set_option maxRecDepth 100000 in
set_option maxHeartbeats 8000000 in
theorem impl_between (s u : ByteArray) (v : Value) (ap nm : ByteArray) (w : World) (hv : ∃ a n c, v = .slice a n c) (h0 : okB (bs s) = true) (h1 : okB (bs u) = true) (h2 : okB (bs ap) = true) (h3 : okB (bs nm) = true) :
    Calls Try.prog 16 #[.agg #[.string s, .string u, v], .string ap, .string nm] w fun e w' => e = .returned (.bool (underL (bs nm) (bs ap) && beforeL (bs s) (bs nm) && (beforeL (bs nm) (bs u) || (u.toList == ap.toList)))) ∧ Below w.heap.size w w' := by
  obtain ⟨a, n, cap, rfl⟩ := hv
  have CU : Hid (∀ W, Calls Try.prog 22 #[.string nm, .string ap] W fun e w' => e = .returned (.bool (underL (bs nm) (bs ap))) ∧ Below W.heap.size W w') := hidIt (fun W => by rw [← under_both h3 h2]; exact impl_Under nm ap W)
  have C1 : Hid (∀ W, Calls Try.prog 23 #[.string s, .string nm] W fun e w' => e = .returned (.bool (beforeL (bs s) (bs nm))) ∧ Below W.heap.size W w') := hidIt (fun W => by rw [← before_both h0 h3]; exact impl_Before s nm W)
  have C2 : Hid (∀ W, Calls Try.prog 23 #[.string nm, .string u] W fun e w' => e = .returned (.bool (beforeL (bs nm) (bs u))) ∧ Below W.heap.size W w') := hidIt (fun W => by rw [← before_both h3 h1]; exact impl_Before nm u W)
  clear h0 h1 h2 h3
  generalize underL (bs nm) (bs ap) = un at *
  generalize beforeL (bs s) (bs nm) = b1 at *
  generalize beforeL (bs nm) (bs u) = b2 at *
  generalize he1 : (u.toList == ap.toList) = e1
  have HB : Hid (Below w.heap.size w (w.alloc (Obj.cells #[Value.string s, Value.string u, Value.slice a n cap] 27))) := hidIt ((Below.refl w.heap.size w).alloc (Nat.le_refl _) _)
  have BX : Hid (Bx (w.alloc (Obj.cells #[Value.string s, Value.string u, Value.slice a n cap] 27)) w.heap.size s u (Value.slice a n cap)) := hidIt ⟨by simp, by simp, by simp⟩
  go_enter Try.func16, Try.ntmps16
  go_wp2_with (fail)
  refine (CU.out _).mono ?_
  rintro e w1 ⟨rfl, k1⟩
  replace HB := hidIt (HB.out.trans (k1.mono HB.out.size))
  replace BX := hidIt (BX.out.kept k1)
  clear k1
  have c0 := BX.out.c0
  have c1 := BX.out.c1
  cases un with
  | false =>
    go_wp2_with (fail)
    go_ret
    exact ⟨rfl, HB.out⟩
  | true =>
    go_wp2_with (fail)
    refine (C1.out _).mono ?_
    rintro e w1 ⟨rfl, k1⟩
    replace HB := hidIt (HB.out.trans (k1.mono HB.out.size))
    replace BX := hidIt (BX.out.kept k1)
    clear k1 c0 c1
    have c0 := BX.out.c0
    have c1 := BX.out.c1
    cases b1 with
    | false =>
      go_wp2_with (fail)
      go_ret
      exact ⟨rfl, HB.out⟩
    | true =>
      cases e1 with
      | true =>
        go_wp2_with (fail)
        go_ret
        exact ⟨by cases b2 <;> rfl, HB.out⟩
      | false =>
        go_wp2_with (fail)
        refine (C2.out _).mono ?_
        rintro e w1 ⟨rfl, k1⟩
        replace HB := hidIt (HB.out.trans (k1.mono HB.out.size))
        clear k1 c0 c1 BX
        go_wp2_with (fail)
        go_ret
        exact ⟨by cases b2 <;> rfl, HB.out⟩
end Go.Proofs.Ytkclfnmhiojklaa.Zn
