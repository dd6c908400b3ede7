/-
  A list of Lines that came in: what is read of it, as a list of texts and Sums.
-/
import Derived.Test.YtgbnkkjjgodilaaGreatDoorLogL
import Derived.Deep.SlicePairs
import Derived.OpenShut
namespace Go.Proofs.YtgbnkkjjgodilaaGreatDoor.Lg
open Go.ChangeShapes Go.WideShapes Go.ChangeAt Go.RowKit
open Sg
/-- The slice at a, of capacity cap, reads as L; its texts are no longer than a text may be. -/
structure In (w : World) (a : Option Addr) (cap : Nat) (L : List Ln) : Prop where
  rd : Rd w a L
  le : L.length ≤ cap
  cap : cap ≤ 9223372036854775807
  short : ∀ i, i < L.length → (lat L i).1.size ≤ 9223372036854775807
theorem lat_map (n : Nat) (f : Nat → Ln) (i : Nat) (hi : i < n) : lat ((List.range n).map f) i = f i := by
  unfold lat
  rw [List.getD_eq_getElem?_getD, List.getElem?_map, List.getElem?_range hi]
  rfl
theorem cellsLn : Tryz.prog.cellsOf 126 = 2 := by kernel_rfl
theorem cellsTx : Tryz.prog.cellsOf 9 = 1 := by kernel_rfl
theorem cellsSm : Tryz.prog.cellsOf 2 = 1 := by kernel_rfl
set_option maxRecDepth 100000 in
theorem open_lines_in {H : Type} {enc : TypeId × Value → H} {w : World} {base : Nat} {spare : Nat → Bool} {held : Bool} {v : Value} {fuel : Nat} {z : DataW H × List MemPlace} (hf : DataW.trod enc Tryz.prog w base spare held fuel 71 [v] = some z) :
    ∃ (a : Option Addr) (cap : Nat) (L : List Ln), v = .slice a L.length cap ∧ In w a cap L := by
  rcases Go.Deep.open_slice_pairs Tryz.underlying71 Tryz.underlying126 cellsLn rfl rfl cellsTx cellsSm hf with ⟨hcs, _⟩ | ⟨x, len, cap, m, n, V0, V1, D0, D1, P0, P1, hcs, _, hl, hc, hm, _, hall⟩
  · have ev : v = .slice none 0 0 := by simpa using hcs
    subst ev
    exact ⟨none, 0, [], rfl, Rd.nil _ _, Nat.zero_le _, by decide, fun i hi => by simp at hi⟩
  · have ev : v = .slice (some x) len cap := by simpa using hcs
    subst ev
    have hlm : len ≤ m := by rw [hm]; split <;> omega
    have each : ∀ i, i < len → ∃ y : Ln, V0 i = .string y.1 ∧ V1 i = .int .i64 y.2 ∧ y.1.size ≤ maxLen := by
      intro i hi
      obtain ⟨_, _, t0, t1⟩ := hall i (by omega)
      obtain ⟨s, e0, _, hs⟩ := DataW.trod_string Tryz.underlying9 t0
      obtain ⟨q, e1, _, _⟩ := DataW.trod_int Tryz.underlying2 t1
      exact ⟨(s, q), by simpa using e0, by simpa using e1, hs⟩
    haveI : Inhabited Ln := ⟨(ByteArray.empty, 0)⟩
    obtain ⟨f, hf'⟩ := Go.Deep.choose_lt each
    refine ⟨some x, cap, (List.range len).map f, by simp, ⟨fun i hi => ?_⟩, by simpa using hl, hc, fun i hi => ?_⟩
    · have hi' : i < len := by simpa using hi
      obtain ⟨k0, k1, _, _⟩ := hall i (by omega)
      obtain ⟨e0, e1, _⟩ := hf' i hi'
      have z0 := (hall 0 (by omega)).1
      obtain ⟨b, off, spot⟩ := x
      have hspot : spot = none := by simpa [Addr.add] using World.cell?_spot z0
      subst hspot
      refine ⟨b, off, rfl, ?_, ?_⟩
      · rw [lat_map _ _ _ hi', ← e0, ← Go.WideShapes.add_plain]; exact k0
      · rw [lat_map _ _ _ hi', ← e1, Nat.add_assoc, ← Go.WideShapes.add_plain]; exact k1
    · have hi' : i < len := by simpa using hi
      rw [lat_map _ _ _ hi']
      exact (hf' i hi').2.2
set_option maxRecDepth 100000 in
theorem open_lines {H : Type} {enc : TypeId × Value → H} {w : World} {r : Reach} {b0 base : Nat} {spare : Nat → Bool} {held : Bool} {v : Value} {d : DataW H} {p : List MemPlace} (hv : Value.okWide Tryz.prog w r b0 71 v) (h : DataW.Trod enc Tryz.prog w base spare held 71 v d p) :
    ∃ (a : Option Addr) (cap : Nat) (L : List Ln), v = .slice a L.length cap ∧ In w a cap L := by
  obtain ⟨a, len, cap, rfl⟩ := okWide_slice Tryz.underlying71 hv
  obtain ⟨fuel, hf⟩ := h
  exact open_lines_in (by simpa [Value.cells] using hf)
end Go.Proofs.YtgbnkkjjgodilaaGreatDoor.Lg
