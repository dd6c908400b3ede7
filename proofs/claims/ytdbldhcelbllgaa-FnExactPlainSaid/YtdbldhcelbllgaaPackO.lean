/-
  A list of texts that came in: what is read of it.
-/
import Derived.Test.YtdbldhcelbllgaaPackL
import Derived.Deep.Strs
import Derived.OpenShut
namespace Go.Proofs.Ytdbldhcelbllgaa.Nm
open Go.ChangeShapes Go.WideShapes Go.ChangeAt Go.RowKit
/-- The slice at a, of capacity cap, reads as L; its texts are no longer than a text may be. -/
structure In (w : World) (a : Option Addr) (cap : Nat) (L : List ByteArray) : Prop where
  rd : Rd w a L
  le : L.length ≤ cap
  cap : cap ≤ 9223372036854775807
  short : ∀ i, i < L.length → (sat L i).size ≤ 9223372036854775807
theorem sat_map (n : Nat) (f : Nat → ByteArray) (i : Nat) (hi : i < n) : sat ((List.range n).map f) i = f i := by
  unfold sat
  rw [List.getD_eq_getElem?_getD, List.getElem?_map, List.getElem?_range hi]
  rfl
theorem cellsTx : Try.prog.cellsOf 9 = 1 := by kernel_rfl
theorem open_texts {H : Type} {enc : TypeId × Value → H} {w : World} {r : Reach} {b0 base : Nat} {spare : Nat → Bool} {held : Bool} {v : Value} {d : DataW H} {p : List MemPlace} (hv : Value.okWide Try.prog w r b0 24 v) (h : DataW.Trod enc Try.prog w base spare held 24 v d p) :
    ∃ (a : Option Addr) (cap : Nat) (L : List ByteArray), v = .slice a L.length cap ∧ In w a cap L := by
  obtain ⟨a, len, cap, rfl⟩ := okWide_slice Try.underlying24 hv
  obtain ⟨fuel, hf⟩ := h
  rcases Go.Deep.open_strs Try.underlying24 Try.underlying9 cellsTx hf with ⟨hcs, _⟩ | ⟨x, l, c, m, S, hcs, _, hl, hc, hm, _, hall⟩
  · simp [Value.cells] at hcs
    obtain ⟨rfl, rfl, rfl⟩ := hcs
    exact ⟨none, 0, [], rfl, Rd.nil _ _, Nat.zero_le _, by decide, fun i hi => by simp at hi⟩
  · simp [Value.cells] at hcs
    obtain ⟨rfl, rfl, rfl⟩ := hcs
    have hlm : len ≤ m := by rw [hm]; split <;> omega
    refine ⟨some x, cap, (List.range len).map S, by simp, ⟨fun i hi => ?_⟩, by simpa using hl, hc, fun i hi => ?_⟩
    · have hi' : i < len := by simpa using hi
      have k0 := (hall i (by omega)).1
      have z0 := (hall 0 (by omega)).1
      obtain ⟨b, off, spot⟩ := x
      have hspot : spot = none := by simpa [Addr.add] using World.cell?_spot z0
      subst hspot
      refine ⟨b, off, rfl, ?_⟩
      rw [sat_map _ _ _ hi', ← Go.WideShapes.add_plain]
      exact k0
    · have hi' : i < len := by simpa using hi
      rw [sat_map _ _ _ hi']
      exact (hall i (by omega)).2
end Go.Proofs.Ytdbldhcelbllgaa.Nm
