/-
  What Rules are read of a text, in plain words: just those that are shown as it.
-/
import Derived.Test.YtnmmmhkafdhfcaaDoorRuW
import Derived.Test.YtnmmmhkafdhfcaaDoorSplS
namespace Go.Proofs.YtnmmmhkafdhfcaaDoor.Ru
open Go.ChangeShapes Go.WideShapes Go.ChangeAt Go.RowKit
open Go.Proofs.YtnmmmhkafdhfcaaDoor.Nm (sat sat_at B)
open Go.Proofs.YtnmmmhkafdhfcaaDoor.Nm.Sp (split split_nil split_whole split_cut split_join split_count)
set_option linter.unusedVariables false
theorem bs_append (a b : ByteArray) : bs (a ++ b) = bs a ++ bs b := by
  unfold bs
  rw [ByteArray.data_append, Array.toList_append]
def flb (x : Rw) : Bytes := [if x.2.1 then 114 else 45, if x.2.2 then 119 else 45]
theorem bs_fl (b : Bool) (c : UInt8) : bs (fl b c) = [if b then c else 45] := by cases b <;> rfl
theorem flb_clean (x : Rw) : ∀ c ∈ flb x, c ≠ 32 := by
  obtain ⟨a, b, c⟩ := x
  intro d hd
  simp only [flb, List.mem_cons, List.not_mem_nil, or_false] at hd
  rcases hd with rfl | rfl
  · cases b
    · show (45 : UInt8) ≠ 32; decide
    · show (114 : UInt8) ≠ 32; decide
  · cases c
    · show (45 : UInt8) ≠ 32; decide
    · show (119 : UInt8) ≠ 32; decide
theorem pre_clean {s : ByteArray} (h : okP s = true) : ∀ c ∈ bs s, c ≠ 32 := by
  intro c hc e
  have := byteP_to (okP_all h c hc)
  subst e
  exact absurd this.1 (by decide)
def wds (M : List Rw) : Nat → List Bytes
  | 0 => []
  | n + 1 => wds M n ++ [flb (rat M n), bs (rat M n).1]
theorem wds_length (M : List Rw) : ∀ n, (wds M n).length = 2 * n
  | 0 => rfl
  | n + 1 => by simp only [wds, List.length_append, wds_length M n, List.length_cons, List.length_nil]; omega
theorem wds_at (M : List Rw) : ∀ n i, i < n → (wds M n)[2 * i]? = some (flb (rat M i)) ∧ (wds M n)[2 * i + 1]? = some (bs (rat M i).1)
  | 0, i, h => by omega
  | n + 1, i, h => by
    have hl := wds_length M n
    rcases Nat.lt_succ_iff_lt_or_eq.1 h with g | g
    · obtain ⟨a, b⟩ := wds_at M n i g
      simp only [wds]
      rw [List.getElem?_append_left (by omega), List.getElem?_append_left (by omega)]
      exact ⟨a, b⟩
    · subst g
      simp only [wds]
      rw [List.getElem?_append_right (by omega), List.getElem?_append_right (by omega), hl]
      simp
theorem bs_empty : bs ⟨#[]⟩ = [] := rfl
theorem bs_bl : bs bl = [32] := rfl
theorem one_split {x : Rw} (h : okP x.1 = true) : split (flb x ++ 32 :: bs x.1) = [flb x, bs x.1] := by
  rw [split_cut (flb_clean x), split_whole (pre_clean h)]
theorem shw_split {M : List Rw} (h : ∀ i, i < M.length → okP (rat M i).1 = true) : ∀ n, n + 1 ≤ M.length → split (bs (shw M (n + 1))) = wds M (n + 1)
  | 0, hn => by
    have e : bs (shw M 1) = flb (rat M 0) ++ 32 :: bs (rat M 0).1 := by
      simp only [shw, bs_append, bs_fl, bs_bl, bs_empty, flb]
      simp
    rw [e, one_split (h 0 (by omega))]
    rfl
  | n + 1, hn => by
    have e : bs (shw M (n + 2)) = bs (shw M (n + 1)) ++ 32 :: (flb (rat M (n + 1)) ++ 32 :: bs (rat M (n + 1)).1) := by
      simp only [shw, bs_append, bs_fl, bs_bl, flb]
      simp
    rw [e, split_join, shw_split h n (by omega), one_split (h (n + 1) (by omega))]
    rfl
/-- One Rule out of two words. -/
def pr (a b : ByteArray) : Rw := (b, (((bs a).getD 0 0).toNat : Int) == 114, (((bs a).getD 1 0).toNat : Int) == 119)
theorem pr_flb (x : Rw) : pr (B (flb x)) x.1 = x := by
  obtain ⟨a, b, c⟩ := x
  cases b <;> cases c <;> rfl
abbrev words (s : ByteArray) : List ByteArray := (split (bs s)).map B
def prs (W : List ByteArray) : List Rw := (List.range (W.length / 2)).map (fun i => pr (sat W (2 * i)) (sat W (2 * i + 1)))
theorem prs_length (W : List ByteArray) : (prs W).length = W.length / 2 := by simp [prs]
theorem prs_at (W : List ByteArray) {i : Nat} (hi : i < W.length / 2) : rat (prs W) i = pr (sat W (2 * i)) (sat W (2 * i + 1)) := rat_map _ _ i hi
theorem sat_words {l : List Bytes} {i : Nat} {x : Bytes} (h : l[i]? = some x) : sat (l.map B) i = B x := by
  unfold sat
  rw [List.getD_eq_getElem?_getD, List.getElem?_map, h]
  rfl
theorem B_bs (s : ByteArray) : B (bs s) = s := by cases s; simp
/-- The words of what is shown. -/
theorem words_shown {M : List Rw} (h : ∀ i, i < M.length → okP (rat M i).1 = true) (hn : 0 < M.length) : (words (shw M M.length)).length = 2 * M.length ∧ ∀ i, i < M.length → sat (words (shw M M.length)) (2 * i) = B (flb (rat M i)) ∧ sat (words (shw M M.length)) (2 * i + 1) = (rat M i).1 := by
  obtain ⟨n, e⟩ : ∃ n, M.length = n + 1 := ⟨M.length - 1, by omega⟩
  have hs := shw_split h n (by omega)
  rw [← e] at hs
  have hw : words (shw M M.length) = (wds M M.length).map B := by show (split _).map B = _; rw [hs]
  rw [hw]
  refine ⟨by rw [List.length_map, wds_length], fun i hi => ?_⟩
  obtain ⟨a, b⟩ := wds_at M M.length i hi
  exact ⟨sat_words a, by rw [sat_words b, B_bs]⟩
def readR (s : ByteArray) : Option (List Rw) := if okR (prs (words s)) = true ∧ shw (prs (words s)) (prs (words s)).length = s then some (prs (words s)) else none
theorem prs_shown {M : List Rw} (h : okR M = true) : prs (words (shw M M.length)) = M := by
  rcases Nat.eq_zero_or_pos M.length with hz | hp
  · have : M = [] := List.eq_nil_of_length_eq_zero hz
    subst this
    rfl
  · obtain ⟨hl, ha⟩ := words_shown (fun i hi => okR_at h hi) hp
    have hl2 : (words (shw M M.length)).length / 2 = M.length := by omega
    refine ext_rat (by rw [prs_length, hl2]) (fun i hi => ?_)
    rw [prs_length, hl2] at hi
    rw [prs_at _ (by omega), (ha i hi).1, (ha i hi).2, pr_flb]
theorem read_iff (s : ByteArray) (M : List Rw) : readR s = some M ↔ okR M = true ∧ shw M M.length = s := by
  unfold readR
  constructor
  · intro h
    split at h
    · next g => cases h; exact g
    · cases h
  · rintro ⟨h, rfl⟩
    rw [prs_shown h, if_pos ⟨h, rfl⟩]
theorem read_yes {s : ByteArray} {M : List Rw} (h : okR M = true) (g : shw M M.length = s) : readR s = some M := (read_iff s M).2 ⟨h, g⟩
theorem read_no {s : ByteArray} (h : ∀ M, okR M = true → shw M M.length = s → False) : readR s = none := by
  cases e : readR s with
  | none => rfl
  | some M => have := (read_iff s M).1 e; exact absurd this.2 (fun g => h M this.1 g)
theorem show_short {M : List Rw} (h : okR M = true) : (shw M M.length).size ≤ 528 := by
  have := shw_size M (fun i hi => okP_len (okR_at h hi)) M.length (Nat.le_refl _)
  have := okR_len h
  omega
theorem read_long {s : ByteArray} (h : 1000 < s.size) : readR s = none := read_no (fun M a b => by have := show_short a; rw [b] at this; omega)
theorem read_empty : readR ⟨#[]⟩ = some [] := read_yes (M := []) rfl rfl
theorem read_word {s : ByteArray} {i : Nat} (hi : 2 * i + 1 < (words s).length) (h : (sat (words s) (2 * i)).size ≠ 2) : readR s = none := by
  refine read_no (fun M a b => ?_)
  subst b
  rcases Nat.eq_zero_or_pos M.length with hz | hp
  · have : M = [] := List.eq_nil_of_length_eq_zero hz
    subst this
    exact absurd (show 2 * i + 1 < 1 from hi) (by omega)
  · obtain ⟨hl, ha⟩ := words_shown (fun i hi => okR_at a hi) hp
    rw [hl] at hi
    rw [(ha i (by omega)).1] at h
    exact h rfl
theorem read_prs {s : ByteArray} (h : okR (prs (words s)) = true) (g : shw (prs (words s)) (prs (words s)).length = s) : readR s = some (prs (words s)) := read_yes h g
theorem read_bad {s : ByteArray} (h : okR (prs (words s)) = false) : readR s = none := by unfold readR; rw [if_neg (fun k => by rw [h] at k; cases k.1)]
theorem read_other {s : ByteArray} (g : shw (prs (words s)) (prs (words s)).length ≠ s) : readR s = none := by unfold readR; rw [if_neg (fun k => g k.2)]
theorem words_count (s : ByteArray) : (words s).length ≤ s.size + 1 := by
  have := split_count (bs s)
  rw [bs_length] at this
  simpa using this
end Go.Proofs.YtnmmmhkafdhfcaaDoor.Ru
