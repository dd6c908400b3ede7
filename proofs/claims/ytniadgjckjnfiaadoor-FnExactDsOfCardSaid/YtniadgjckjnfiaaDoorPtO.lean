/-
  A list of Points that came in: what is read of it.
-/
import Derived.Test.YtniadgjckjnfiaaDoorPtP
import Derived.Deep.SlicePairs
import Derived.OpenShut
namespace Go.Proofs.YtniadgjckjnfiaaDoor.Pt
open Go.ChangeShapes Go.WideShapes Go.ChangeAt Go.RowKit
set_option linter.unusedVariables false
theorem lat_map (n : Nat) (f : Nat → Ln) (i : Nat) (hi : i < n) : lat ((List.range n).map f) i = f i := by
  unfold lat
  rw [List.getD_eq_getElem?_getD, List.getElem?_map, List.getElem?_range hi]
  rfl
set_option maxRecDepth 100000 in
theorem cellsLn : Tryd.prog.cellsOf 32 = 2 := by kernel_rfl
set_option maxRecDepth 100000 in
theorem cellsSm : Tryd.prog.cellsOf 2 = 1 := by kernel_rfl
set_option maxRecDepth 100000 in
theorem open_points_in {H : Type} {enc : TypeId × Value → H} {w : World} {base : Nat} {spare : Nat → Bool} {held : Bool} {fuel : Nat} {v : Value} {y : DataW H × List MemPlace} (hf : DataW.trod enc Tryd.prog w base spare held fuel 40 [v] = some y) :
    ∃ (a : Option Addr) (cap : Nat) (L : List Ln), v = .slice a L.length cap ∧ In w a cap L := by
  rcases Go.Deep.open_slice_pairs Tryd.underlying40 Tryd.underlying32 cellsLn rfl rfl cellsSm cellsSm hf with ⟨hcs, _⟩ | ⟨x, l, c, m, n, V0, V1, D0, D1, P0, P1, hcs, _, hl, hc, hm, _, hall⟩
  · simp at hcs
    subst hcs
    exact ⟨none, 0, [], rfl, Rd.nil _ _, Nat.zero_le _, by decide⟩
  · simp at hcs
    subst hcs
    have hlm : l ≤ m := by rw [hm]; split <;> omega
    have each : ∀ i, i < l → ∃ y : Ln, V0 i = .int .i64 y.1 ∧ V1 i = .int .i64 y.2 := by
      intro i hi
      obtain ⟨_, _, t0, t1⟩ := hall i (by omega)
      obtain ⟨s, e0, _, _⟩ := DataW.trod_int Tryd.underlying2 t0
      obtain ⟨q, e1, _, _⟩ := DataW.trod_int Tryd.underlying2 t1
      exact ⟨(s, q), by simpa using e0, by simpa using e1⟩
    haveI : Inhabited Ln := ⟨(0, 0)⟩
    obtain ⟨f, hf'⟩ := Go.Deep.choose_lt each
    refine ⟨some x, c, (List.range l).map f, by simp, ⟨fun i hi => ?_⟩, by simpa using hl, hc⟩
    have hi' : i < l := by simpa using hi
    obtain ⟨k0, k1, _, _⟩ := hall i (by omega)
    obtain ⟨e0, e1⟩ := hf' i hi'
    have z0 := (hall 0 (by omega)).1
    obtain ⟨b, off, spot⟩ := x
    have hspot : spot = none := by simpa [Addr.add] using World.cell?_spot z0
    subst hspot
    refine ⟨b, off, rfl, ?_, ?_⟩
    · rw [lat_map _ _ _ hi', ← e0, ← Go.WideShapes.add_plain]; exact k0
    · rw [lat_map _ _ _ hi', ← e1, Nat.add_assoc, ← Go.WideShapes.add_plain]; exact k1
set_option maxRecDepth 100000 in
theorem open_points {H : Type} {enc : TypeId × Value → H} {w : World} {r : Reach} {b0 base : Nat} {spare : Nat → Bool} {held : Bool} {v : Value} {d : DataW H} {p : List MemPlace} (hv : Value.okWide Tryd.prog w r b0 40 v) (h : DataW.Trod enc Tryd.prog w base spare held 40 v d p) :
    ∃ (a : Option Addr) (cap : Nat) (L : List Ln), v = .slice a L.length cap ∧ In w a cap L := by
  obtain ⟨a, len, cap, rfl⟩ := okWide_slice Tryd.underlying40 hv
  obtain ⟨fuel, hf⟩ := h
  exact open_points_in hf
end Go.Proofs.YtniadgjckjnfiaaDoor.Pt
