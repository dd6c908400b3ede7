/-
  The program's fitting, longest, RuleFor and May.
-/
import Derived.Test.YtdgnjhppggemhaaDoorRuI
import Derived.Test.YtdgnjhppggemhaaDoorRuF
import Derived.Deep.RegionHeld3
namespace Go.Proofs.YtdgnjhppggemhaaDoor.Ru
open Go.ChangeShapes Go.WideShapes Go.ChangeAt Go.RowKit
open Go.Proofs.YtdgnjhppggemhaaDoor.Rc (BelowBy BelowBy.one wp_region_below calls_below calls_same)
set_option linter.unusedVariables false
set_option maxHeartbeats 1000000 in
set_option maxRecDepth 100000 in
theorem lib_HasPrefix (k x : ByteArray) (w : World) (hk : k.size ≤ 9223372036854775807) (hx : x.size ≤ 9223372036854775807) :
    Calls Tryd.prog 32 #[.string k, .string x] w fun e w' => e = .returned (.bool (fit (bs x) (bs k))) ∧ w' = w := by
  have H : Calls Tryd.prog 38 #[.string k, .string x] w fun e w' => e = .returned (.bool (fit (bs x) (bs k))) ∧ w' = w := by
    by_cases hl : x.size ≤ k.size
    · have h1 : (x.size : Int) ≤ (k.size : Int) := by omega
      rw [fit_text]
      go_enter Tryd.func38, Tryd.ntmps38
      go_wp2
      go_ret
      exact ⟨rfl, rfl⟩
    · have h1 : ¬ (x.size : Int) ≤ (k.size : Int) := by omega
      rw [fit_long hl]
      go_enter Tryd.func38, Tryd.ntmps38
      go_wp2
      go_ret
      exact ⟨rfl, rfl⟩
  go_enter Tryd.func32, Tryd.ntmps32
  go_wp2_with (go_at_call 38; refine H.mono ?_; rintro e w' ⟨rfl, rfl⟩)
  go_ret
  exact ⟨rfl, rfl⟩
/-- Those that fit. -/
def fits (L : List Rw) (k : Bytes) : List Rw := L.filter (fun x => fit (bs x.1) k)
theorem fits_take {L : List Rw} {k : Bytes} {i : Nat} (h : i < L.length) : fits (L.take (i + 1)) k = fits (L.take i) k ++ (if fit (bs (rat L i).1) k = true then [rat L i] else []) := by
  rw [take_rat h]
  unfold fits
  rw [List.filter_append]
  congr 1
  rw [List.filter_cons, List.filter_nil]
theorem fits_len (L : List Rw) (k : Bytes) : (fits L k).length ≤ L.length := List.length_filter_le _ _
theorem freshR {w : World} {k : Nat} (h : w.heap.size = k) (x : Rw) (T : TypeId) : ∀ j u, (rcells [x])[j]? = some u → (w.alloc (.cells (rc x) T)).cell? ((⟨k, 0, none⟩ : Addr).add j) = some u := by subst h; exact fresh w x T
/-- The place of the longest of the first n + 1, the first of its length. -/
def lng (F : List Rw) : Nat → Nat
  | 0 => 0
  | n + 1 => if (rat F (lng F n)).1.size < (rat F (n + 1)).1.size then n + 1 else lng F n
theorem lng_le (F : List Rw) : ∀ n, lng F n ≤ n
  | 0 => Nat.le_refl _
  | n + 1 => by
    have := lng_le F n
    unfold lng
    split <;> omega
theorem lng_most (F : List Rw) : ∀ n i, i ≤ n → (rat F i).1.size ≤ (rat F (lng F n)).1.size
  | 0, i, h => by
    obtain rfl : i = 0 := by omega
    exact Nat.le_refl _
  | n + 1, i, h => by
    unfold lng
    rcases Nat.eq_or_lt_of_le h with e | e
    · subst e
      split <;> omega
    · have := lng_most F n i (by omega)
      split <;> omega
theorem rat_in {F : List Rw} {j : Nat} (h : j < F.length) : rat F j ∈ F := rat_mem h
/-- What is the longest of those that fit. -/
theorem for_lng {L : List Rw} {k : Bytes} (h : okR L = true) (hn : (fits L k).length ≠ 0) : forR L k = some (rat (fits L k) (lng (fits L k) ((fits L k).length - 1))) := by
  have hj : lng (fits L k) ((fits L k).length - 1) < (fits L k).length := by have := lng_le (fits L k) ((fits L k).length - 1); omega
  have hm := rat_mem hj
  obtain ⟨h1, h2⟩ := List.mem_filter.1 hm
  obtain ⟨i, hi, e⟩ := List.mem_iff_getElem.1 h1
  rw [← rat_at hi] at e
  have hlg := lng_most (fits L k) ((fits L k).length - 1)
  rw [← e] at hlg h2 ⊢
  refine for_is h hi h2 (fun j hj hf => ?_)
  have hin : rat L j ∈ fits L k := List.mem_filter.2 ⟨rat_mem hj, hf⟩
  obtain ⟨q, hq, e'⟩ := List.mem_iff_getElem.1 hin
  have := hlg q (by omega)
  rw [rat_at hq, e'] at this
  rw [bs_length, bs_length]
  exact this
theorem for_nought {L : List Rw} {k : Bytes} (hn : (fits L k).length = 0) : forR L k = none := by
  refine for_none (fun j hj => ?_)
  cases e : fit (kat L j) k with
  | false => rfl
  | true =>
    have hin : rat L j ∈ fits L k := List.mem_filter.2 ⟨rat_mem hj, e⟩
    rw [List.eq_nil_of_length_eq_zero hn] at hin
    cases hin
theorem may_flat (L : List Rw) (k : Bytes) (wr : Bool) : mayR L k wr = if wr then ((forR L k).getD zr).2.2 else ((forR L k).getD zr).2.1 := by
  unfold mayR
  cases forR L k with
  | none => cases wr <;> rfl
  | some r => rfl
end Go.Proofs.YtdgnjhppggemhaaDoor.Ru
