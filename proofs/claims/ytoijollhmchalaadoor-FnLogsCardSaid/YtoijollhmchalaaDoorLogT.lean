/-
  Same of the program and of the specification, whatever the two lists: alike.
-/
import Derived.Test.YtoijollhmchalaaDoorLogO
namespace Go.Proofs.YtoijollhmchalaaDoor.Lg
open Go.ChangeShapes Go.WideShapes Go.ChangeAt Go.RowKit
open Sg
set_option maxHeartbeats 2000000 in
theorem impl_Same_no (a b : Option Addr) (ca cb : Nat) (L M : List Ln) (w : World) (ha : Rd w a L) (hb : Rd w b M) (hca : L.length ≤ ca) (hcb : M.length ≤ cb) (h : okL L = false ∨ okL L = true ∧ okL M = false) (ht : Tab w) :
    Calls Tryd.prog 12 #[.slice a L.length ca, .slice b M.length cb] w fun e w' => e = .returned (.int .i64 (-1)) ∧ Below w.heap.size w w' := by
  have C1 := fun w h t => impl_LogOk a ca L w h hca t
  have C2 := fun w h t => impl_LogOk b cb M w h hcb t
  have HA := hidIt ha
  have HB := hidIt hb
  have HT := hidIt ht
  clear ht
  clear ha hb
  rcases h with h | ⟨h, h2⟩
  · rw [h] at C1
    have H1 := hidIt C1
    clear C1 C2 h
    go_enter Tryd.func12, Tryd.ntmps12
    go_wp2_with (fail)
    refine (H1.out _ HA.out HT.out).mono ?_
    rintro e w1 ⟨rfl, hb1⟩
    go_wp2_with (fail)
    go_ret
    exact ⟨rfl, hb1⟩
  · rw [h] at C1
    rw [h2] at C2
    have H1 := hidIt C1
    have H2 := hidIt C2
    clear C1 C2 h h2
    go_enter Tryd.func12, Tryd.ntmps12
    go_wp2_with (fail)
    refine (H1.out _ HA.out HT.out).mono ?_
    rintro e w1 ⟨rfl, hb1⟩
    have K1 := hidIt hb1
    clear hb1
    go_wp2_with (fail)
    refine (H2.out _ (HB.out.kept K1.out) (HT.out.kept K1.out)).mono ?_
    rintro e w2 ⟨rfl, hb2⟩
    have K2 := hidIt (K1.out.trans (hb2.mono K1.out.size))
    clear hb2
    go_wp2_with (fail)
    go_ret
    exact ⟨rfl, K2.out⟩
set_option maxHeartbeats 2000000 in
theorem spec_Same_no (a b : Option Addr) (ca cb : Nat) (L M : List Ln) (w : World) (ha : Rd w a L) (hb : Rd w b M) (h : okL L = false ∨ okL L = true ∧ okL M = false) :
    Calls Tryd.prog 19 #[.slice a L.length ca, .slice b M.length cb] w fun e w' => e = .returned (.int .i64 (-1)) ∧ Below w.heap.size w w' := by
  have C1 := fun w h => spec_LogOk a ca L w h
  have C2 := fun w h => spec_LogOk b cb M w h
  have HA := hidIt ha
  have HB := hidIt hb
  clear ha hb
  rcases h with h | ⟨h, h2⟩
  · rw [h] at C1
    have H1 := hidIt C1
    clear C1 C2 h
    go_enter Tryd.func19, Tryd.ntmps19
    go_wp2_with (fail)
    refine (H1.out _ HA.out).mono ?_
    rintro e w1 ⟨rfl, hb1⟩
    go_wp2_with (fail)
    go_ret
    exact ⟨rfl, hb1⟩
  · rw [h] at C1
    rw [h2] at C2
    have H1 := hidIt C1
    have H2 := hidIt C2
    clear C1 C2 h h2
    go_enter Tryd.func19, Tryd.ntmps19
    go_wp2_with (fail)
    refine (H1.out _ HA.out).mono ?_
    rintro e w1 ⟨rfl, hb1⟩
    have K1 := hidIt hb1
    clear hb1
    go_wp2_with (fail)
    refine (H2.out _ (HB.out.kept K1.out)).mono ?_
    rintro e w2 ⟨rfl, hb2⟩
    have K2 := hidIt (K1.out.trans (hb2.mono K1.out.size))
    clear hb2
    go_wp2_with (fail)
    go_ret
    exact ⟨rfl, K2.out⟩
/-- What Same answers: -1 where one is no log, else how many first Lines both have alike. -/
def SameIs (L M : List Ln) (n : Int) : Prop := ((okL L = false ∨ okL L = true ∧ okL M = false) ∧ n = -1) ∨ (okL L = true ∧ okL M = true ∧ ∃ k : Nat, n = k ∧ IsSame L M k)
theorem sameIs_ex (L M : List Ln) : ∃ n, SameIs L M n := by
  cases h1 : okL L with
  | false => exact ⟨-1, .inl ⟨.inl h1, rfl⟩⟩
  | true =>
    cases h2 : okL M with
    | false => exact ⟨-1, .inl ⟨.inr ⟨h1, h2⟩, rfl⟩⟩
    | true =>
      obtain ⟨k, hk⟩ := same_ex L M
      exact ⟨k, .inr ⟨h1, h2, k, rfl, hk⟩⟩
theorem impl_Same_any (a b : Option Addr) (ca cb : Nat) (L M : List Ln) (n : Int) (w : World) (ha : Rd w a L) (hb : Rd w b M) (hca : L.length ≤ ca) (hcb : M.length ≤ cb) (hn : SameIs L M n) (ht : Tab w) :
    Calls Tryd.prog 12 #[.slice a L.length ca, .slice b M.length cb] w fun e w' => e = .returned (.int .i64 n) ∧ Below w.heap.size w w' := by
  rcases hn with ⟨h, rfl⟩ | ⟨h1, h2, k, rfl, hk⟩
  · exact impl_Same_no a b ca cb L M w ha hb hca hcb h ht
  · exact impl_Same_yes a b ca cb L M k w ha hb hca hcb h1 h2 hk ht
theorem spec_Same_any (a b : Option Addr) (ca cb : Nat) (L M : List Ln) (n : Int) (w : World) (ha : Rd w a L) (hb : Rd w b M) (hn : SameIs L M n) :
    Calls Tryd.prog 19 #[.slice a L.length ca, .slice b M.length cb] w fun e w' => e = .returned (.int .i64 n) ∧ Below w.heap.size w w' := by
  rcases hn with ⟨h, rfl⟩ | ⟨h1, h2, k, rfl, hk⟩
  · exact spec_Same_no a b ca cb L M w ha hb h
  · exact spec_Same_yes a b ca cb L M k w ha hb h1 h2 hk
theorem same_both (L M : List Ln) : ∃ n : Int, (∀ a b ca cb w, Rd w a L → Rd w b M → Calls Tryd.prog 19 #[.slice a L.length ca, .slice b M.length cb] w fun e w' => e = .returned (.int .i64 n) ∧ Below w.heap.size w w') ∧
    (∀ a b ca cb w, Rd w a L → Rd w b M → L.length ≤ ca → M.length ≤ cb → Tab w → Calls Tryd.prog 12 #[.slice a L.length ca, .slice b M.length cb] w fun e w' => e = .returned (.int .i64 n) ∧ Below w.heap.size w w') := by
  obtain ⟨n, hn⟩ := sameIs_ex L M
  exact ⟨n, fun a b ca cb w ha hb => spec_Same_any a b ca cb L M n w ha hb hn, fun a b ca cb w ha hb h1 h2 ht => impl_Same_any a b ca cb L M n w ha hb h1 h2 hn ht⟩
end Go.Proofs.YtoijollhmchalaaDoor.Lg
