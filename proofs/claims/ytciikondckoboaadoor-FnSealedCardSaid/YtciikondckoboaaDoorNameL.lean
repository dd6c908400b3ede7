/-
  NameOk of the program.
-/
import Derived.Test.YtciikondckoboaaDoorNameK
namespace Go.Proofs.YtciikondckoboaaDoor.Nm
open Go.ChangeShapes Go.WideShapes Go.ChangeAt Go.RowKit Go.Shelf
attribute [local go_sem] Oper.semAt_some
theorem ok_many {l : Bytes} (h : 6 < (labels l).length) : okB l = false := by
  unfold okB
  rw [decide_eq_false (p := (labels l).length ≤ 6) (by omega), Bool.and_false, Bool.and_false]
theorem ok_bad {l p : Bytes} (h : p ∈ labels l) (hp : labelOk p = false) : okB l = false := by
  unfold okB
  have : (labels l).all labelOk = false := by
    rw [List.all_eq_false]
    exact ⟨p, h, by rw [hp]; simp⟩
  rw [this, Bool.false_and, Bool.and_false]
theorem ok_good {l : Bytes} (h0 : l.length ≤ 60) (h1 : (labels l).length ≤ 6) (h2 : ∀ p ∈ labels l, labelOk p = true) : okB l = true := by
  unfold okB
  rw [decide_eq_true h0, decide_eq_true h1, List.all_eq_true.2 h2]
  rfl
theorem tx_bad {l : Bytes} {xs pre : List Tx} (hxs : txs xs = labels l) (hpre : pre <+: xs) (h : 6 < pre.length ∨ ∃ x ∈ pre, labelOk (bs x.1) = false) : okB l = false := by
  rcases h with h | ⟨x, hx, h⟩
  · refine ok_many ?_
    rw [← hxs, txs, List.length_map]
    exact Nat.lt_of_lt_of_le h hpre.length_le
  · exact ok_bad (by rw [← hxs]; exact List.mem_map.2 ⟨x, hpre.subset hx, rfl⟩) h
theorem tx_good {l : Bytes} {xs : List Tx} (h0 : l.length ≤ 60) (hxs : txs xs = labels l) (h1 : xs.length ≤ 6) (h2 : ∀ x ∈ xs, labelOk (bs x.1) = true) : okB l = true := by
  refine ok_good h0 (by rw [← hxs, txs, List.length_map]; exact h1) (fun p hp => ?_)
  rw [← hxs] at hp
  obtain ⟨x, hx, rfl⟩ := List.mem_map.1 hp
  exact h2 x hx
theorem txs_length (xs : List Tx) : (txs xs).length = xs.length := by rw [txs, List.length_map]
end Go.Proofs.YtciikondckoboaaDoor.Nm
