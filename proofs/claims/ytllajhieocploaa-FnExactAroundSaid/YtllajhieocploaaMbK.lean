/-
  Where an Id stands among Members, by the program's search.
-/
import Derived.Test.YtllajhieocploaaMbH
import Derived.Deep.LoopGhost
namespace Go.Proofs.Ytllajhieocploaa.Mm
open Go.ChangeShapes Go.WideShapes Go.ChangeAt Go.RowKit
open Go.Proofs.Ytllajhieocploaa.Mk (okE newB okBk look Ris IsJoin mergeB)
set_option linter.unusedVariables false
def cmpN (n m : Int) : Int := if n < m then -1 else if m < n then 1 else 0
theorem cmpN_lt (n m : Int) : decide (cmpN n m < 0) = decide (n < m) := by
  unfold cmpN
  split
  · rename_i h; simp [h]
  · rename_i h
    split
    · simp [h]
    · simp [h]
theorem cmpN_eq (n m : Int) : (cmpN n m == 0) = decide (n = m) := by
  unfold cmpN
  split
  · rename_i h; rw [decide_eq_false (by omega)]; rfl
  · rename_i h
    split
    · rename_i k; rw [decide_eq_false (by omega)]; rfl
    · rename_i k; rw [decide_eq_true (by omega)]; rfl
set_option maxHeartbeats 2000000 in
theorem isNaN_int (n : Int) (w : World) : Calls Try.prog 117 #[.int .i64 n] w fun e w' => e = .returned (.bool false) ∧ w' = w := by
  go_enter Try.func117, Try.ntmps117
  go_wp2
  go_ret
  exact ⟨rfl, rfl⟩
set_option maxHeartbeats 2000000 in
theorem cmp_int (n m : Int) (w : World) : Calls Try.prog 101 #[.int .i64 n, .int .i64 m] w fun e w' => e = .returned (.int .i64 (cmpN n m)) ∧ w' = w := by
  have hN := isNaN_int
  unfold cmpN
  by_cases h : n < m
  · rw [if_pos h]
    go_enter Try.func101, Try.ntmps101
    go_wp2_with (go_at_call 117; refine (hN _ _).mono ?_; rintro e w1 ⟨rfl, rfl⟩)
    go_ret
    exact ⟨rfl, rfl⟩
  · rw [if_neg h]
    by_cases k : m < n
    · rw [if_pos k]
      go_enter Try.func101, Try.ntmps101
      go_wp2_with (go_at_call 117; refine (hN _ _).mono ?_; rintro e w1 ⟨rfl, rfl⟩)
      go_ret
      exact ⟨rfl, rfl⟩
    · rw [if_neg k]
      go_enter Try.func101, Try.ntmps101
      go_wp2_with (go_at_call 117; refine (hN _ _).mono ?_; rintro e w1 ⟨rfl, rfl⟩)
      go_ret
      exact ⟨rfl, rfl⟩
set_option maxHeartbeats 2000000 in
theorem place_closure (x : Rw) (id : Int) (w : World) : Calls Try.prog 100 #[rv x, .int .i64 id] w fun e w' => e = .returned (.int .i64 (cmpN x.1 id)) ∧ Below w.heap.size w w' := by
  obtain ⟨a, b, c⟩ := x
  have C := hidIt (fun W => cmp_int a id W)
  have HB := hidIt ((Below.refl w.heap.size w).alloc (Nat.le_refl _) (.cells #[.int .i64 a, .int .i64 b, .int .i64 c] 89))
  simp only
  generalize cmpN a id = r at C ⊢
  go_enter Try.func100, Try.ntmps100
  go_wp2_with (fail)
  refine (C.out _).mono ?_
  rintro e w1 ⟨rfl, rfl⟩
  go_wp2_with (fail)
  go_ret
  exact ⟨rfl, HB.out⟩
/-- Where an Id stands, or would. -/
structure At (L : List Rw) (id : Int) (k : Nat) (is : Bool) : Prop where
  le : k ≤ L.length
  lo : ∀ t, t < k → kat L t < id
  hi : k < L.length → ¬ kat L k < id
  yes : is = true → k < L.length ∧ kat L k = id
  no : is = false → k < L.length → kat L k ≠ id
/-- What the search comes to. -/
def PlcR (L : List Rw) (id : Int) (w : World) (e : Ending) (w' : World) : Prop := ∃ (k : Nat) (is : Bool), e = .returned (.tuple #[.int .i64 k, .bool is]) ∧ At L id k is ∧ Below w.heap.size w w'
theorem PlcR.of {L : List Rw} {id : Int} {w w' : World} {e : Ending} (k : Nat) (is : Bool) (h : e = .returned (.tuple #[.int .i64 k, .bool is])) (h1 : At L id k is) (h2 : Below w.heap.size w w') : PlcR L id w e w' := ⟨k, is, h, h1, h2⟩
theorem PlcR.out {L : List Rw} {id : Int} {w w' : World} {e : Ending} (h : PlcR L id w e w') : ∃ (k : Nat) (is : Bool), e = .returned (.tuple #[.int .i64 k, .bool is]) ∧ At L id k is ∧ Below w.heap.size w w' := h
set_option maxRecDepth 100000 in
set_option maxHeartbeats 8000000 in
theorem search_members (a : Option Addr) (cap : Nat) (L : List Rw) (id : Int) (w : World) (h : Rd w a L) (hl : L.length ≤ 100) (hr : Ris (toB L)) :
    Calls Try.prog 99 #[.slice a L.length cap, .int .i64 id, .func (.func 100) #[] #[]] w fun e w' => PlcR L id w e w' := by
  have HR := hidIt h
  have HM : Hid (∀ s t, s ≤ t → t < L.length → kat L s ≤ kat L t) := hidIt (fun s t hst ht => by
    rcases Nat.lt_or_ge s t with q | q
    · have r := hr
      unfold Ris at r
      rw [List.pairwise_iff_getElem] at r
      have := r s t (by rw [List.length_map]; omega) (by rw [List.length_map]; exact ht) q
      rw [List.getElem_map, List.getElem_map] at this
      unfold kat
      rw [rat_at (by omega), rat_at ht]
      exact Int.le_of_lt this
    · obtain rfl : s = t := by omega
      exact Int.le_refl _)
  have CC := hidIt (fun x W => place_closure x id W)
  clear h hr
  generalize hn : L.length = n at *
  have HN := hidIt hn
  clear hn
  go_enter Try.func99, Try.ntmps99
  go_wp2_with (fail)
  go_loopg [9, 10] n (fun kx s9 s10 wx => ∃ lo hi : Nat, s9 = .int .i64 lo ∧ s10 = .int .i64 hi ∧ lo ≤ hi ∧ hi ≤ n ∧ hi - lo ≤ kx ∧ Hid (Below w.heap.size w wx) ∧ Hid ((∀ t, t < lo → kat L t < id) ∧ (∀ t, hi ≤ t → t < n → ¬ kat L t < id)))
  case atStart => exact ⟨0, n, rfl, rfl, Nat.zero_le _, Nat.le_refl _, by omega, hidIt (Below.refl _ _), hidIt ⟨fun t ht => by omega, fun t h1 h2 => by omega⟩⟩
  case round =>
    obtain ⟨lo, hi, rfl, rfl, hlh, hin, hg, HB, HI⟩ := hrel
    by_cases hlt : lo < hi
    · have hlt' : (lo : Int) < (hi : Int) := by omega
      obtain ⟨b, off, ea, c0, c1, c2⟩ := (HR.out.kept HB.out).all (i := (lo + hi) / 2) (by rw [HN.out]; omega)
      subst ea
      have hc := hidIt (CC.out (rat L ((lo + hi) / 2)) wr)
      have hd := cmpN_lt (rat L ((lo + hi) / 2)).1 id
      have hkey : Hid (kat L ((lo + hi) / 2) = (rat L ((lo + hi) / 2)).1) := hidIt rfl
      generalize rat L ((lo + hi) / 2) = x at c0 c1 c2 hc hd hkey
      obtain ⟨xi, xt, xs⟩ := x
      simp only [rv] at c0 c1 c2 hc hd hkey
      generalize cmpN xi id = r at hc hd
      have hm0 : (0 : Int) ≤ ((lo : Int) + (hi : Int)) / 2 := by omega
      have hm1 : ((lo : Int) + (hi : Int)) / 2 < (n : Int) := by omega
      have hm2 : (((lo : Int) + (hi : Int)) / 2).toNat = (lo + hi) / 2 := by omega
      by_cases hp : xi < id
      · rw [decide_eq_true hp] at hd
        go_wp2_with (fail)
        refine hc.out.mono ?_
        rintro e w1 ⟨rfl, k1⟩
        have HB1 := hidIt (HB.out.trans (k1.mono HB.out.size))
        clear k1
        go_wp2_with (fail)
        go_roundg (hi - ((lo + hi) / 2 + 1))
        case measure => omega
        case rel =>
          refine ⟨(lo + hi) / 2 + 1, hi, by rw [show ((lo : Int) + (hi : Int)) / 2 + 1 = (((lo + hi) / 2 + 1 : Nat) : Int) by omega], rfl, by omega, hin, Nat.le_refl _, HB1, hidIt ⟨fun t ht => ?_, HI.out.2⟩⟩
          have := HM.out t ((lo + hi) / 2) (by omega) (by omega)
          have := hkey.out
          omega
      · rw [decide_eq_false hp] at hd
        go_wp2_with (fail)
        refine hc.out.mono ?_
        rintro e w1 ⟨rfl, k1⟩
        have HB1 := hidIt (HB.out.trans (k1.mono HB.out.size))
        clear k1
        go_wp2_with (fail)
        go_roundg ((lo + hi) / 2 - lo)
        case measure => omega
        case rel =>
          exact ⟨lo, (lo + hi) / 2, rfl, by rw [show ((lo : Int) + (hi : Int)) / 2 = (((lo + hi) / 2 : Nat) : Int) by omega], by omega, by omega, Nat.le_refl _, HB1, hidIt ⟨HI.out.1, fun t ht htn => by
            have := HM.out ((lo + hi) / 2) t ht htn
            have := hkey.out
            omega⟩⟩
    · obtain rfl : hi = lo := by omega
      have hlt' : ¬ (hi : Int) < (hi : Int) := by omega
      by_cases hend : hi < n
      · have hend' : (hi : Int) < (n : Int) := by omega
        obtain ⟨b, off, ea, c0, c1, c2⟩ := (HR.out.kept HB.out).all (i := hi) (by rw [HN.out]; exact hend)
        subst ea
        have hc := hidIt (CC.out (rat L hi) wr)
        have hd := cmpN_eq (rat L hi).1 id
        have hkey : Hid (kat L hi = (rat L hi).1) := hidIt rfl
        generalize rat L hi = x at c0 c1 c2 hc hd hkey
        obtain ⟨xi, xt, xs⟩ := x
        simp only [rv] at c0 c1 c2 hc hd hkey
        generalize cmpN xi id = r at hc hd
        obtain ⟨is, his⟩ : ∃ is, decide (xi = id) = is := ⟨_, rfl⟩
        rw [his] at hd
        have HIS := hidIt his
        clear his
        go_wp2_with (fail)
        refine hc.out.mono ?_
        rintro e w1 ⟨rfl, k1⟩
        have HB1 := hidIt (HB.out.trans (k1.mono HB.out.size))
        clear k1
        go_wp2_with (fail)
        refine bodyPost_ret (v := .tuple #[.int .i64 hi, .bool is]) (by simp [results, Try.results99, go_sem]) rfl ?_
        exact PlcR.of hi is rfl ⟨by rw [HN.out]; exact hin, HI.out.1, fun _ => (by have := HI.out.2 hi (Nat.le_refl _) hend; omega), fun e => ⟨by rw [HN.out]; exact hend, by rw [hkey.out]; exact of_decide_eq_true (HIS.out.trans e)⟩, fun e _ => (by rw [hkey.out]; exact of_decide_eq_false (HIS.out.trans e))⟩ HB1.out
      · have hend' : ¬ (hi : Int) < (n : Int) := by omega
        go_wp2_with (fail)
        refine bodyPost_ret (v := .tuple #[.int .i64 hi, .bool false]) (by simp [results, Try.results99, go_sem]) rfl ?_
        exact PlcR.of hi false rfl ⟨by rw [HN.out]; exact hin, HI.out.1, fun h => absurd (by rw [← HN.out]; exact h) hend, fun e => (by cases e), fun _ h => absurd (by rw [← HN.out]; exact h) hend⟩ HB.out
set_option maxRecDepth 100000 in
set_option maxHeartbeats 4000000 in
theorem impl_placeOf (a : Option Addr) (cap : Nat) (L : List Rw) (id : Int) (w : World) (h : Rd w a L) (hl : L.length ≤ 100) (hr : Ris (toB L)) :
    Calls Try.prog 81 #[.slice a L.length cap, .int .i64 id] w fun e w' => PlcR L id w e w' := by
  have C := hidIt (search_members a cap L id w h hl hr)
  clear h hr
  generalize L.length = n at *
  go_enter Try.func81, Try.ntmps81
  go_wp2_with (fail)
  refine C.out.mono ?_
  intro e w1 hz
  obtain ⟨k, is, rfl, hk, k1⟩ := hz.out
  clear hz
  have HK := hidIt hk
  have HB := hidIt k1
  clear hk k1
  go_wp2_with (fail)
  refine bodyPost_ret (v := .tuple #[.int .i64 k, .bool is]) (by simp [results, Try.results81, go_sem]) rfl ?_
  exact PlcR.of k is rfl HK.out HB.out
end Go.Proofs.Ytllajhieocploaa.Mm
