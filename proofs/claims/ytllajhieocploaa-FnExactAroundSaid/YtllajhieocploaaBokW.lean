/-
  ValueOf and Alive of the specification.
-/
import Derived.Test.YtllajhieocploaaBokV
namespace Go.Proofs.Ytllajhieocploaa.Bk
/-- What ValueOf answers; the Keys that are not Gone. -/
def valB (L : List En) (k : Bytes) : Bytes × Bool := if okBk L = true then (match look L k with
    | some e => if e.gone = true then ([], false) else (e.value, true)
    | none => ([], false)) else ([], false)
def aliveB (L : List En) : List Bytes := if okBk L = true then (L.filter fun e => !e.gone).map (·.key) else []
theorem val_no {L : List En} {k : Bytes} (h : okBk L = false) : valB L k = ([], false) := by unfold valB; rw [if_neg (by rw [h]; decide)]
theorem val_none {L : List En} {k : Bytes} (h : okBk L = true) (hl : look L k = none) : valB L k = ([], false) := by unfold valB; rw [if_pos h, hl]
theorem val_gone {L : List En} {k : Bytes} {e : En} (h : okBk L = true) (hl : look L k = some e) (hg : e.gone = true) : valB L k = ([], false) := by unfold valB; rw [if_pos h, hl]; simp [hg]
theorem val_some {L : List En} {k : Bytes} {e : En} (h : okBk L = true) (hl : look L k = some e) (hg : e.gone = false) : valB L k = (e.value, true) := by unfold valB; rw [if_pos h, hl]; simp [hg]
end Go.Proofs.Ytllajhieocploaa.Bk
namespace Go.Proofs.Ytllajhieocploaa.En
open Go.ChangeShapes Go.WideShapes Go.ChangeAt Go.RowKit
open Go.Proofs.Ytllajhieocploaa.Bk (Bytes okE newB okBk Ris IsJoin joinB valB aliveB)
set_option linter.unusedVariables false
/-- The first of a Key. -/
theorem look_first {L : List Rw} {k : Bytes} {i : Nat} (hi : i < L.length) (h1 : ∀ j, j < i → kat L j ≠ k) (h2 : kat L i = k) : Bk.look (toB L) k = some (toE (rat L i)) := by
  have e : toB L = toB (L.take i) ++ toE (rat L i) :: toB (L.drop (i + 1)) := by
    conv => lhs; rw [split_at hi]
    simp [toB]
  rw [e, Bk.look_append, Bk.look_cons, if_pos (show (toE (rat L i)).key = k from h2), Bk.look_none_of (fun x hx => ?_)]
  · rfl
  · obtain ⟨y, hy, rfl⟩ := List.mem_map.1 hx
    obtain ⟨j, hj, rfl⟩ := List.mem_iff_getElem.1 hy
    rw [List.length_take] at hj
    have := h1 j (by omega)
    unfold kat at this
    rw [rat_at (by omega)] at this
    rw [List.getElem_take]
    exact this
theorem look_all {L : List Rw} {k : Bytes} (h : ∀ j, j < L.length → kat L j ≠ k) : Bk.look (toB L) k = none :=
  Bk.look_none_of (fun x hx => by
    obtain ⟨y, hy, rfl⟩ := List.mem_map.1 hx
    obtain ⟨j, hj, rfl⟩ := List.mem_iff_getElem.1 hy
    have := h j hj
    unfold kat at this
    rw [rat_at hj] at this
    exact this)
/-- The Keys that are not Gone, as texts. -/
def keysR (L : List Rw) : List ByteArray := (L.filter fun x => !x.2.2.2.2).map (·.1)
def aliveR (L : List Rw) : List ByteArray := if okBk (toB L) = true then keysR L else []
theorem keysR_take {L : List Rw} {i : Nat} (h : i < L.length) : keysR (L.take (i + 1)) = if (rat L i).2.2.2.2 = true then keysR (L.take i) else keysR (L.take i) ++ [(rat L i).1] := by
  unfold keysR
  rw [take_rat h, List.filter_append, List.map_append]
  cases hg : (rat L i).2.2.2.2 with
  | true => simp [hg]
  | false => simp [hg]
theorem keysR_length (L : List Rw) : (keysR L).length ≤ L.length := by
  unfold keysR
  rw [List.length_map]
  exact List.length_filter_le _ _
theorem alive_len (L : List Rw) : (aliveR L).length ≤ 80 := by
  unfold aliveR
  by_cases h : okBk (toB L) = true
  · rw [if_pos h]
    have h1 : L.length ≤ 80 := by
      have := Bk.ok_len h
      rw [toB_length] at this
      exact this
    have h2 : (keysR L).length ≤ L.length := by unfold keysR; rw [List.length_map]; exact List.length_filter_le _ _
    omega
  · rw [if_neg h]; simp
theorem alive_bs (L : List Rw) : (aliveR L).map bs = aliveB (toB L) := by
  unfold aliveR aliveB keysR
  by_cases h : okBk (toB L) = true
  · rw [if_pos h, if_pos h, List.map_map, toB, List.filter_map, List.map_map]
    rfl
  · rw [if_neg h, if_neg h]
    rfl
theorem infoStr : (Try.prog.info? 9).map (fun i => (i.zero, i.size, i.bytes)) = some (some (.string ByteArray.empty), 1, 16) := by kernel_rfl
theorem freshS (w : World) (s : ByteArray) (T : TypeId) : ∀ j u, ([Value.string s] : List Value)[j]? = some u → (w.alloc (.cells #[.string s] T)).cell? ((⟨w.heap.size, 0, none⟩ : Addr).add j) = some u := by
  intro j u hj
  match j, hj with
  | 0, hj => simp at hj; subst hj; simp [Addr.add]
end Go.Proofs.Ytllajhieocploaa.En
