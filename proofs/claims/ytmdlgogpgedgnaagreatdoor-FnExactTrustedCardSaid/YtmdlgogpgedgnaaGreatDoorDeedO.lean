/-
  A Seal and a Deed that came in: what is read of them.
-/
import Derived.Test.YtmdlgogpgedgnaaGreatDoorDeedD
import Derived.Test.YtmdlgogpgedgnaaGreatDoorPtO
import Derived.Lib.SmallJoins
import Derived.Deep.Strs
namespace Go.Proofs.YtmdlgogpgedgnaaGreatDoor.Dd
open Go.ChangeShapes Go.WideShapes Go.ChangeAt Go.RowKit
open Go.Proofs.YtmdlgogpgedgnaaGreatDoor.Pt (Ln)
set_option linter.unusedVariables false
theorem array6 {cs : Array Value} (h : cs.size = 6) : ∃ a b c d e f, cs = #[a, b, c, d, e, f] := by
  obtain ⟨l⟩ := cs
  match l, h with
  | [a, b, c, d, e, f], _ => exact ⟨a, b, c, d, e, f, rfl⟩
theorem array8 {cs : Array Value} (h : cs.size = 8) : ∃ a b c d e f g i, cs = #[a, b, c, d, e, f, g, i] := by
  obtain ⟨l⟩ := cs
  match l, h with
  | [a, b, c, d, e, f, g, i], _ => exact ⟨a, b, c, d, e, f, g, i, rfl⟩
theorem cellsP : Tryz.prog.cellsOf 24 = 2 := by kernel_rfl
theorem cellsG : Tryz.prog.cellsOf 26 = 3 := by kernel_rfl
theorem cellsS : Tryz.prog.cellsOf 28 = 6 := by kernel_rfl
theorem cellsI : Tryz.prog.cellsOf 2 = 1 := by kernel_rfl
set_option maxRecDepth 100000 in
theorem open_seal_in {H : Type} {enc : TypeId × Value → H} {w : World} {base : Nat} {spare : Nat → Bool} {held : Bool} {fuel : Nat} {c0 c1 c2 c3 c4 c5 : Value} {y : DataW H × List MemPlace} (hf : DataW.trod enc Tryz.prog w base spare held fuel 28 [c0, c1, c2, c3, c4, c5] = some y) :
    ∃ k1 k2 u r1 r2 t : Int, c0 = .int .i64 k1 ∧ c1 = .int .i64 k2 ∧ c2 = .int .i64 u ∧ c3 = .int .i64 r1 ∧ c4 = .int .i64 r2 ∧ c5 = .int .i64 t := by
  obtain ⟨y0, y1, y2, n, _, _, h0, h1, h2⟩ := Go.Deep.trod_struct3 Tryz.underlying28 hf
  obtain ⟨z0, z1, m, _, _, g0, g1⟩ := trod_struct2 Tryz.underlying24 h0
  obtain ⟨x0, x1, m', _, _, e0, e1⟩ := trod_struct2 Tryz.underlying26 h2
  obtain ⟨v0, v1, m2, _, _, d0, d1⟩ := trod_struct2 Tryz.underlying24 e0
  obtain ⟨k1, q0, _, _⟩ := DataW.trod_int Tryz.underlying2 g0
  obtain ⟨k2, q1, _, _⟩ := DataW.trod_int Tryz.underlying2 g1
  obtain ⟨u, q2, _, _⟩ := DataW.trod_int Tryz.underlying2 h1
  obtain ⟨r1, q3, _, _⟩ := DataW.trod_int Tryz.underlying2 d0
  obtain ⟨r2, q4, _, _⟩ := DataW.trod_int Tryz.underlying2 d1
  obtain ⟨t, q5, _, _⟩ := DataW.trod_int Tryz.underlying2 e1
  simp [cellsP, cellsG, cellsI] at q0 q1 q2 q3 q4 q5
  exact ⟨k1, k2, u, r1, r2, t, q0, q1, q2, q3, q4, q5⟩
set_option maxRecDepth 100000 in
theorem open_seal {H : Type} {enc : TypeId × Value → H} {w : World} {r : Reach} {b0 base : Nat} {spare : Nat → Bool} {held : Bool} {v : Value} {d : DataW H} {p : List MemPlace} (hv : Value.okWide Tryz.prog w r b0 28 v) (h : DataW.Trod enc Tryz.prog w base spare held 28 v d p) :
    ∃ k1 k2 u r1 r2 t : Int, v = sv k1 k2 u r1 r2 t := by
  obtain ⟨cs, rfl, hsz⟩ := okWide_struct Tryz.underlying28 hv
  obtain ⟨c0, c1, c2, c3, c4, c5, rfl⟩ := array6 (hsz.trans cellsS)
  obtain ⟨fuel, hf⟩ := h
  obtain ⟨k1, k2, u, r1, r2, t, rfl, rfl, rfl, rfl, rfl, rfl⟩ := open_seal_in hf
  exact ⟨k1, k2, u, r1, r2, t, rfl⟩
theorem cellsD : Tryz.prog.cellsOf 30 = 8 := by kernel_rfl
theorem cellsT : Tryz.prog.cellsOf 9 = 1 := by kernel_rfl
theorem cellsK : Tryz.prog.cellsOf 22 = 1 := by kernel_rfl
set_option maxRecDepth 100000 in
theorem open_deed {H : Type} {enc : TypeId × Value → H} {w : World} {r : Reach} {b0 base : Nat} {spare : Nat → Bool} {held : Bool} {v : Value} {d : DataW H} {p : List MemPlace} (hv : Value.okWide Tryz.prog w r b0 30 v) (h : DataW.Trod enc Tryz.prog w base spare held 30 v d p) :
    ∃ (z : ByteArray) (a : Option Addr) (cap : Nat) (L : List Ln) (k1 k2 u r1 r2 t : Int), v = dv z (.slice a L.length cap) k1 k2 u r1 r2 t ∧ z.size ≤ 9223372036854775807 ∧ Pt.In w a cap L := by
  obtain ⟨cs, rfl, hsz⟩ := okWide_struct Tryz.underlying30 hv
  obtain ⟨c0, c1, c2, c3, c4, c5, c6, c7, rfl⟩ := array8 (hsz.trans cellsD)
  obtain ⟨fuel, hf⟩ := h
  obtain ⟨y0, y1, y2, n, _, _, h0, h1, h2⟩ := Go.Deep.trod_struct3 Tryz.underlying30 hf
  simp only [cellsT, cellsK, cellsS, Value.cells] at h0 h1 h2
  obtain ⟨k1, k2, u, r1, r2, t, rfl, rfl, rfl, rfl, rfl, rfl⟩ := open_seal_in h2
  obtain ⟨a, cap, L, rfl, hin⟩ := Pt.open_points_in h1
  obtain ⟨z, e0, _, hz⟩ := DataW.trod_string Tryz.underlying9 h0
  have e0' : c0 = .string z := by simpa using e0
  subst e0'
  exact ⟨z, a, cap, L, k1, k2, u, r1, r2, t, rfl, hz, hin⟩
end Go.Proofs.YtmdlgogpgedgnaaGreatDoor.Dd
