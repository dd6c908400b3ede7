/-
  A list of Acts that came in. (Written by wip/mkAct.py.)
-/
import Derived.Test.YtbdibkcamomgpaaActM
import Derived.OpenShut
namespace Go.Proofs.Ytbdibkcamomgpaa.Ac
open Go.ChangeShapes Go.WideShapes Go.ChangeAt Go.RowKit
set_option linter.unusedVariables false
theorem cellsQ : Try.prog.cellsOf 40 = 5 := by kernel_rfl
theorem cellsA : Try.prog.cellsOf 42 = 12 := by kernel_rfl
theorem cellsT : Try.prog.cellsOf 9 = 1 := by kernel_rfl
theorem cellsI : Try.prog.cellsOf 2 = 1 := by kernel_rfl
theorem cellsB : Try.prog.cellsOf 4 = 1 := by kernel_rfl
set_option maxRecDepth 100000 in
theorem open_query_in {H : Type} {enc : TypeId × Value → H} {w : World} {base : Nat} {spare : Nat → Bool} {held : Bool} {fuel : Nat} {c7 c8 c9 c10 c11 : Value} {z : DataW H × List MemPlace} (hf : DataW.trod enc Try.prog w base spare held fuel 40 [c7, c8, c9, c10, c11] = some z) :
    ∃ (q7 : Int) (q8 q9 : ByteArray) (q10 q11 : Int), c7 = .int .i64 q7 ∧ c8 = .string q8 ∧ c9 = .string q9 ∧ c10 = .int .i64 q10 ∧ c11 = .int .i64 q11 ∧ q8.size ≤ maxLen ∧ q9.size ≤ maxLen := by
  obtain ⟨xs, k, hk, hxy, _, hxl, hf'⟩ := DataW.trod_struct Try.underlying40 hf
  match xs, hxl with
  | [y7, y8, y9, y10, y11], _ =>
    have g7 := hf' 0 _ rfl
    have g8 := hf' 1 _ rfl
    have g9 := hf' 2 _ rfl
    have g10 := hf' 3 _ rfl
    have g11 := hf' 4 _ rfl
    simp [cellsI, cellsT] at g7 g8 g9 g10 g11
    obtain ⟨q7, eq7, _, _⟩ := DataW.trod_int Try.underlying2 g7
    obtain ⟨q8, eq8, _, hs8⟩ := DataW.trod_string Try.underlying9 g8
    obtain ⟨q9, eq9, _, hs9⟩ := DataW.trod_string Try.underlying9 g9
    obtain ⟨q10, eq10, _, _⟩ := DataW.trod_int Try.underlying2 g10
    obtain ⟨q11, eq11, _, _⟩ := DataW.trod_int Try.underlying2 g11
    simp at eq7 eq8 eq9 eq10 eq11
    exact ⟨q7, q8, q9, q10, q11, eq7, eq8, eq9, eq10, eq11, hs8, hs9⟩
set_option maxRecDepth 100000 in
theorem open_act_in {H : Type} {enc : TypeId × Value → H} {w : World} {base : Nat} {spare : Nat → Bool} {held : Bool} {fuel : Nat} {c0 c1 c2 c3 c4 c5 c6 c7 c8 c9 c10 c11 : Value} {z : DataW H × List MemPlace} (hf : DataW.trod enc Try.prog w base spare held fuel 42 [c0, c1, c2, c3, c4, c5, c6, c7, c8, c9, c10, c11] = some z) :
    ∃ y : Rw, [c0, c1, c2, c3, c4, c5, c6, c7, c8, c9, c10, c11] = rcells [y] ∧ y.2.2.2.1.size ≤ maxLen ∧ y.2.2.2.2.1.size ≤ maxLen ∧ y.2.2.2.2.2.1.size ≤ maxLen ∧ y.2.2.2.2.2.2.2.2.1.size ≤ maxLen ∧ y.2.2.2.2.2.2.2.2.2.1.size ≤ maxLen := by
  obtain ⟨xs, k, hk, hxy, _, hxl, hf'⟩ := DataW.trod_struct Try.underlying42 hf
  match xs, hxl with
  | [y0, y1, y2, y3, y4, y5, y6, y7], _ =>
    have g0 := hf' 0 _ rfl
    have g1 := hf' 1 _ rfl
    have g2 := hf' 2 _ rfl
    have g3 := hf' 3 _ rfl
    have g4 := hf' 4 _ rfl
    have g5 := hf' 5 _ rfl
    have g6 := hf' 6 _ rfl
    have g7 := hf' 7 _ rfl
    simp [cellsI, cellsT, cellsB, cellsQ] at g0 g1 g2 g3 g4 g5 g6 g7
    obtain ⟨q0, eq0, _, _⟩ := DataW.trod_int Try.underlying2 g0
    obtain ⟨q1, eq1, _, _⟩ := DataW.trod_int Try.underlying2 g1
    obtain ⟨q2, eq2, _, _⟩ := DataW.trod_int Try.underlying2 g2
    obtain ⟨q3, eq3, _, hs3⟩ := DataW.trod_string Try.underlying9 g3
    obtain ⟨q4, eq4, _, hs4⟩ := DataW.trod_string Try.underlying9 g4
    obtain ⟨q5, eq5, _, hs5⟩ := DataW.trod_string Try.underlying9 g5
    obtain ⟨q6, eq6, _, _⟩ := DataW.trod_bool Try.underlying4 g6
    obtain ⟨q7, q8, q9, q10, q11, rfl, rfl, rfl, rfl, rfl, hs8, hs9⟩ := open_query_in g7
    simp at eq0 eq1 eq2 eq3 eq4 eq5 eq6
    subst eq0 eq1 eq2 eq3 eq4 eq5 eq6
    exact ⟨(q0, q1, q2, q3, q4, q5, q6, q7, q8, q9, q10, q11), rfl, hs3, hs4, hs5, hs8, hs9⟩
set_option maxRecDepth 100000 in
theorem open_acts {H : Type} {enc : TypeId × Value → H} {w : World} {r : Reach} {b0 base : Nat} {spare : Nat → Bool} {held : Bool} {v : Value} {d : DataW H} {p : List MemPlace}
    (hv : Value.okWide Try.prog w r b0 22 v) (h : DataW.Trod enc Try.prog w base spare held 22 v d p) : ∃ (a : Option Addr) (cap : Nat) (L : List Rw), v = .slice a L.length cap ∧ In w a cap L := by
  obtain ⟨a, len, cap, rfl⟩ := okWide_slice Try.underlying22 hv
  obtain ⟨fuel, hf⟩ := h
  have hf' : DataW.trod enc Try.prog w base spare held fuel 22 [.slice a len cap] = some (d, p) := by simpa [Value.cells] using hf
  rcases Go.Deep.open_slice Try.underlying22 hf' with ⟨hcs, _⟩ | ⟨x, len, cap, m, n, D, Pl, hcs, _, hl, hc, hm, _, hx⟩
  · simp at hcs
    obtain ⟨rfl, rfl, rfl⟩ := hcs
    exact ⟨none, 0, [], rfl, Rd.nil _ _, fun _ => rfl, Nat.zero_le _, by decide, fun i hi => by simp at hi⟩
  · simp at hcs
    obtain ⟨rfl, rfl, rfl⟩ := hcs
    have hlm : len ≤ m := by rw [hm]; split <;> omega
    have each : ∀ i, i < len → ∃ y : Rw, (∀ j, j < 12 → w.cell? (x.add (i * 12 + j)) = some (rcell y j)) ∧ y.2.2.2.1.size ≤ maxLen ∧ y.2.2.2.2.1.size ≤ maxLen ∧ y.2.2.2.2.2.1.size ≤ maxLen ∧ y.2.2.2.2.2.2.2.2.1.size ≤ maxLen ∧ y.2.2.2.2.2.2.2.2.2.1.size ≤ maxLen := by
      intro i hi
      obtain ⟨cs', h1, h2⟩ := hx i (by omega)
      rw [cellsA] at h1
      obtain ⟨_, hlen, hcell⟩ := World.cells?_some h1
      match cs', hlen with
      | [v0, v1, v2, v3, v4, v5, v6, v7, v8, v9, v10, v11], _ =>
        obtain ⟨y, ey, hsz⟩ := open_act_in h2
        refine ⟨y, fun j hj => ?_, hsz⟩
        have e := hcell j hj
        rw [Go.Deep.add_add] at e
        rw [e, ey]
        match j, hj with
        | 0, _ => rfl
        | 1, _ => rfl
        | 2, _ => rfl
        | 3, _ => rfl
        | 4, _ => rfl
        | 5, _ => rfl
        | 6, _ => rfl
        | 7, _ => rfl
        | 8, _ => rfl
        | 9, _ => rfl
        | 10, _ => rfl
        | 11, _ => rfl
    haveI : Inhabited Rw := ⟨(0, 0, 0, ByteArray.empty, ByteArray.empty, ByteArray.empty, false, 0, ByteArray.empty, ByteArray.empty, 0, 0)⟩
    obtain ⟨f, hf'⟩ := Go.Deep.choose_lt each
    refine ⟨some x, cap, (List.range len).map f, by simp, ⟨fun i hi => ?_⟩, (fun e => by cases e), by simpa using hl, hc, fun i hi => ?_⟩
    · have hi' : i < len := by simpa using hi
      have z0 := (hf' 0 (by omega)).1 0 (by omega)
      obtain ⟨b, off, spot⟩ := x
      have hspot : spot = none := by simpa [Addr.add] using World.cell?_spot z0
      subst hspot
      refine ⟨b, off, rfl, fun j hj => ?_⟩
      rw [rat_map _ _ _ hi', ← Go.WideShapes.add_plain]
      exact (hf' i hi').1 j hj
    · have hi' : i < len := by simpa using hi
      rw [rat_map _ _ _ hi']
      exact (hf' i hi').2
end Go.Proofs.Ytbdibkcamomgpaa.Ac
