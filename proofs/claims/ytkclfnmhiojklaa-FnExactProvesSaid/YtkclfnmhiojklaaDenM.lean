/-
  A Deny (two names and a row of numbers) that came in, and what the laws do with one: szDeny, toDeny, eqDeny.
-/
import Derived.Test.YtkclfnmhiojklaaIntR
import Derived.Deep.Strs
namespace Go.Proofs.Ytkclfnmhiojklaa.Zn
open Go.ChangeShapes Go.WideShapes Go.ChangeAt Go.RowKit
set_option linter.unusedVariables false
open Go.Proofs.Ytkclfnmhiojklaa.Iv (iat iat_at iat_take szInt64S_any toInt64S_any eqInt64S_any)
open Go.Proofs.Ytkclfnmhiojklaa.Nm (hidIt)
theorem open_ints_in {H : Type} {P : Program} {enc : TypeId × Value → H} {w : World} {base : Nat} {spare : Nat → Bool} {held : Bool} {t e : TypeId} {fuel : Nat} {v : Value} {x : DataW H × List MemPlace}
    (ht : P.underlying t = some (.slice e)) (he : P.underlying e = some (.int .i64)) (hc : P.cellsOf e = 1) (h : DataW.trod enc P w base spare held fuel t [v] = some x) :
    ∃ (a : Option Addr) (cap : Nat) (L : List Int), v = .slice a L.length cap ∧ Iv.In w a cap L := by
  rcases open_ints ht he hc h with ⟨hcs, _⟩ | ⟨a, len, cap, zs, hcs, _, hl, hm, hz, _, hcell, _⟩
  · simp at hcs
    subst hcs
    exact ⟨none, 0, [], rfl, Iv.Rd.nil _ _, Nat.zero_le _, by decide⟩
  · simp at hcs
    subst hcs
    have hlz : len ≤ zs.length := by rw [hz]; split <;> omega
    have hll : (zs.take len).length = len := by rw [List.length_take]; omega
    refine ⟨some a, cap, zs.take len, by rw [hll], ⟨fun i hi => ?_⟩, by rw [hll]; exact hl, hm⟩
    rw [hll] at hi
    have z0 := hcell 0 (by omega)
    have zi := hcell i (by omega)
    obtain ⟨b, off, spot⟩ := a
    have hspot : spot = none := by simpa [Addr.add] using World.cell?_spot z0
    subst hspot
    refine ⟨b, off, rfl, ?_⟩
    rw [iat_take hi, ← Go.WideShapes.add_plain]
    exact zi
theorem open_deny {H : Type} {P : Program} {enc : TypeId × Value → H} {w : World} {r : Reach} {b0 base : Nat} {spare : Nat → Bool} {held : Bool} {v : Value} {d : DataW H} {p : List MemPlace} {e i : TypeId} {f0 f1 f2 : Field}
    (he : P.underlying e = some (.struct #[f0, f1, f2])) (ce : P.cellsOf e = 3) (o0 : f0.offset = 0) (o1 : f1.offset = 1) (o2 : f2.offset = 2)
    (c0 : P.cellsOf f0.type = 1) (c1 : P.cellsOf f1.type = 1) (c2 : P.cellsOf f2.type = 1)
    (t0 : P.underlying f0.type = some .string) (t1 : P.underlying f1.type = some .string) (t2 : P.underlying f2.type = some (.slice i)) (ti : P.underlying i = some (.int .i64)) (ci : P.cellsOf i = 1)
    (hv : Value.okWide P w r b0 e v) (h : DataW.Trod enc P w base spare held e v d p) : ∃ (s u : ByteArray) (a : Option Addr) (cap : Nat) (L : List Int), v = .agg #[.string s, .string u, .slice a L.length cap] ∧ s.size ≤ 9223372036854775807 ∧ u.size ≤ 9223372036854775807 ∧ Iv.In w a cap L := by
  obtain ⟨cs, rfl, hsz⟩ := okWide_struct he hv
  obtain ⟨v0, v1, v2, rfl⟩ := Go.Joins.array3 (hsz.trans ce)
  obtain ⟨fuel, hf⟩ := h
  obtain ⟨y0, y1, y2, n, _, _, g0, g1, g2⟩ := Go.Deep.trod_struct3 he hf
  simp [o0, o1, o2, c0, c1, c2, Value.cells] at g0 g1 g2
  obtain ⟨s, es, _, hs⟩ := DataW.trod_string t0 g0
  obtain ⟨u, eu, _, hu⟩ := DataW.trod_string t1 g1
  obtain ⟨a, cap, L, ea, hI⟩ := open_ints_in t2 ti ci g2
  simp at es eu
  subst es eu ea
  exact ⟨s, u, a, cap, L, rfl, hs, hu, hI⟩
/-- What lies in the three cells of a Deny. -/
structure Bx (w : World) (g : Nat) (s u : ByteArray) (v : Value) : Prop where
  c0 : w.cell? ⟨g, 0, none⟩ = some (.string s)
  c1 : w.cell? ⟨g, 1, none⟩ = some (.string u)
  c2 : w.cell? ⟨g, 2, none⟩ = some v
theorem Bx.kept {w w' : World} {g : Nat} {s u : ByteArray} {v : Value} (h : Bx w g s u v) (k : Below w.heap.size w w') : Bx w' g s u v :=
  ⟨by rw [k.cell (by simpa using Nm.cell_block h.c0)]; exact h.c0, by rw [k.cell (by simpa using Nm.cell_block h.c1)]; exact h.c1, by rw [k.cell (by simpa using Nm.cell_block h.c2)]; exact h.c2⟩
theorem Bx.drew {w : World} {g : Nat} {s u : ByteArray} {v : Value} (h : Bx w g s u v) : Bx w.drew g s u v := ⟨h.c0, h.c1, h.c2⟩
theorem below_box {W w' : World} {o : Obj} (k : Below (W.alloc o).heap.size (W.alloc o) w') : Below W.heap.size W w' :=
  ((Below.refl _ _).alloc (Nat.le_refl _) o).trans (k.mono (by simp))
theorem alloc_at {W : World} {b j : Nat} {o : Array Value} {t : TypeId} {v : Value} (hb : b = W.heap.size) (hv : o[j]? = some v) : (W.alloc (.cells o t)).cell? ⟨b, j, none⟩ = some v ∧ (W.alloc (.cells o t)).frozen? ⟨b, j, none⟩ = false := by
  subst hb
  exact ⟨by simp [hv], by simp⟩
theorem alloc_under {W : World} {b j : Nat} {o : Obj} {v : Value} (hb : b < W.heap.size) (h : W.cell? ⟨b, j, none⟩ = some v ∧ W.frozen? ⟨b, j, none⟩ = false) : (W.alloc o).cell? ⟨b, j, none⟩ = some v ∧ (W.alloc o).frozen? ⟨b, j, none⟩ = false :=
  have k := (Below.refl W.heap.size W).alloc (Nat.le_refl _) o
  ⟨(k.cell (p := ⟨b, j, none⟩) hb).trans h.1, (k.frozen (p := ⟨b, j, none⟩) hb).trans h.2⟩
theorem kept_at {W w' : World} {b j : Nat} {v : Value} (k : Below W.heap.size W w') (hb : b < W.heap.size) (h : W.cell? ⟨b, j, none⟩ = some v ∧ W.frozen? ⟨b, j, none⟩ = false) : w'.cell? ⟨b, j, none⟩ = some v ∧ w'.frozen? ⟨b, j, none⟩ = false :=
  ⟨(k.cell (p := ⟨b, j, none⟩) hb).trans h.1, (k.frozen (p := ⟨b, j, none⟩) hb).trans h.2⟩
/-- A Deny as a value. -/
abbrev dv (s u : ByteArray) (a : Option Addr) (n cap : Nat) : Value := .agg #[.string s, .string u, .slice a n cap]
set_option maxRecDepth 100000 in
set_option maxHeartbeats 2000000 in
theorem szDeny_any (s u : ByteArray) (a : Option Addr) (cap n : Nat) (l : Int) (w : World) (hs : s.size ≤ 9223372036854775807) (hu : u.size ≤ 9223372036854775807) (hl : n ≤ 9223372036854775807) (h0 : 0 ≤ l) (h1 : l ≤ 1048576) :
    Calls Try.prog 4 #[dv s u a n cap, .int .i64 l] w fun e w' => ∃ r : Int, e = .returned (.int .i64 r) ∧ r ≤ l ∧ -1 ≤ r ∧ (0 ≤ r → n ≤ 1048576) ∧ Below w.heap.size w w' := by
  have g1 : -9223372036854775808 ≤ l - (s.size : Int) := by omega
  have g2 : l - (s.size : Int) ≤ 9223372036854775807 := by omega
  have HB := hidIt ((Below.refl w.heap.size w).alloc (Nat.le_refl _) (.cells #[.string s, .string u, .slice a n cap] 24))
  by_cases hn1 : l - (s.size : Int) < 0
  · go_enter Try.func4, Try.ntmps4
    go_wp2
    go_ret
    exact ⟨-1, rfl, by omega, by omega, fun h => by omega, HB.out⟩
  · generalize e1 : l - (s.size : Int) = m at g1 g2 hn1
    have g3 : -9223372036854775808 ≤ m - (u.size : Int) := by omega
    have g4 : m - (u.size : Int) ≤ 9223372036854775807 := by omega
    by_cases hn2 : m - (u.size : Int) < 0
    · go_enter Try.func4, Try.ntmps4
      go_wp2
      go_ret
      exact ⟨-1, rfl, by omega, by omega, fun h => by omega, HB.out⟩
    · generalize e2 : m - (u.size : Int) = q at g3 g4 hn2
      have CZ := hidIt (fun W => szInt64S_any a cap n q W hl (by omega) (by omega))
      go_enter Try.func4, Try.ntmps4
      go_wp2_with (fail)
      refine (CZ.out _).mono ?_
      rintro e w1 ⟨r, rfl, hr1, hr0, hr2, rfl⟩
      have HR2 := hidIt hr2
      clear hr2
      by_cases hneg : r < 0
      · go_wp2_with (fail)
        go_ret
        exact ⟨-1, rfl, by omega, by omega, fun h => by omega, HB.out⟩
      · go_wp2_with (fail)
        go_ret
        exact ⟨r, rfl, by omega, by omega, HR2.out, HB.out⟩
set_option maxRecDepth 100000 in
set_option maxHeartbeats 2000000 in
theorem toDeny_any (s u : ByteArray) (a : Option Addr) (cap : Nat) (L : List Int) (w : World) (h : Iv.Rd w a L) (hl : L.length ≤ 1048576) :
    Calls Try.prog 6 #[dv s u a L.length cap] w fun e w' => ∃ x cp, e = .returned (dv s u x L.length cp) ∧ Iv.Own w' w.heap.size (.slice x L.length cp) L ∧ Below w.heap.size w w' := by
  have CT := hidIt (fun W hW => toInt64S_any a cap L W hW hl)
  have HR := hidIt h
  clear h
  have HB : Hid (Below w.heap.size w (((w.alloc (Obj.cells #[Value.string s, Value.string u, Value.slice a L.length cap] 24)).alloc (Obj.cells #[Value.string { data := #[] }, Value.string { data := #[] }, Value.slice none 0 0] 27)).alloc (Obj.cells #[Value.string s, Value.string u, Value.slice none 0 0] 27))) :=
    hidIt ((((Below.refl w.heap.size w).alloc (Nat.le_refl _) _).alloc (by simp) _).alloc (by simp; omega) _)
  go_enter Try.func6, Try.ntmps6
  go_wp2_with (fail)
  refine (CT.out _ (HR.out.kept HB.out)).mono ?_
  rintro e w1 ⟨v1, rfl, hO1, k1⟩
  obtain ⟨x1, cp1, rfl, f1, m1, R1, hna, hsome⟩ := hO1.form
  have lt0 : w.heap.size + 1 + 1 < w1.heap.size := by have := k1.size; simp at this; omega
  obtain ⟨c0, _⟩ := kept_at (b := w.heap.size + 1 + 1) (j := 0) (v := .string s) k1 (by simp) (alloc_at (by simp) rfl)
  obtain ⟨c1, _⟩ := kept_at (b := w.heap.size + 1 + 1) (j := 1) (v := .string u) k1 (by simp) (alloc_at (by simp) rfl)
  obtain ⟨c2, fz⟩ := kept_at (b := w.heap.size + 1 + 1) (j := 2) (v := .slice none 0 0) k1 (by simp) (alloc_at (by simp) rfl)
  obtain ⟨d0, g0⟩ := kept_at (b := w.heap.size + 1) (j := 0) (v := .string { data := #[] }) k1 (by simp) (alloc_under (by simp) (alloc_at (by simp) rfl))
  obtain ⟨d1, g1⟩ := kept_at (b := w.heap.size + 1) (j := 1) (v := .string { data := #[] }) k1 (by simp) (alloc_under (by simp) (alloc_at (by simp) rfl))
  obtain ⟨d2, g2⟩ := kept_at (b := w.heap.size + 1) (j := 2) (v := .slice none 0 0) k1 (by simp) (alloc_under (by simp) (alloc_at (by simp) rfl))
  have HB1 := hidIt (HB.out.trans (k1.mono HB.out.size))
  have HO1 := hidIt hO1
  clear hO1 R1 hna hsome k1 HB HR CT
  have lt1 : ∀ q, (Value.slice x1 L.length cp1).ownBlock = some q → w.heap.size + 1 + 1 < q := fun q hq => by have := (World.ownsRow.lt HO1.out q hq).1; simp at this; omega
  go_wp2_with (fail)
  refine bodyPost_ret (v := dv s u x1 L.length cp1) (by simp [results, Try.results6, go_sem, d0, d1, d2]) rfl ⟨x1, cp1, rfl, ?_, (((HB1.out.setCell (by simp; omega) _).setCell (by simp) _).setCell (by simp) _).setCell (by simp) _⟩
  refine Iv.Own.only (c := w.heap.size + 1) (w := w1.setCell ⟨w.heap.size + 1 + 1, 2, none⟩ (Value.slice x1 L.length cp1)) (Iv.Own.only (c := w.heap.size + 1 + 1) (HO1.out.mono (by simp; omega)) ((Only.refl _ _).setCell _ _) (.inr fun q hq e => by have := lt1 q hq; omega)) ((((Only.refl _ _).setCell _ _).setCell _ _).setCell _ _) (.inr fun q hq e => by have := lt1 q hq; omega)
set_option maxRecDepth 100000 in
set_option maxHeartbeats 2000000 in
theorem eqDeny_same (s u : ByteArray) (a b : Option Addr) (ca cb : Nat) (L : List Int) (w : World) (ha : Iv.Rd w a L) (hb : Iv.Rd w b L) (hl : L.length ≤ 9223372036854775806) :
    Calls Try.prog 8 #[dv s u a L.length ca, dv s u b L.length cb] w fun e w' => e = .returned (.bool true) ∧ Below w.heap.size w w' := by
  have CE := hidIt (fun W h h' => eqInt64S_any a b ca cb L W h h' hl)
  have HA := hidIt ha
  have HC := hidIt hb
  have HB : Hid (Below w.heap.size w ((w.alloc (Obj.cells #[Value.string s, Value.string u, Value.slice a L.length ca] 27)).alloc (Obj.cells #[Value.string s, Value.string u, Value.slice b L.length cb] 27))) :=
    hidIt (((Below.refl w.heap.size w).alloc (Nat.le_refl _) _).alloc (by simp) _)
  clear ha hb
  go_enter Try.func8, Try.ntmps8
  go_wp2_with (fail)
  refine (CE.out _ (HA.out.kept HB.out) (HC.out.kept HB.out)).mono ?_
  rintro e w1 ⟨rfl, k1⟩
  have HB1 := hidIt (HB.out.trans (k1.mono HB.out.size))
  clear k1 HB
  go_wp2_with (fail)
  go_ret
  exact ⟨rfl, HB1.out⟩
end Go.Proofs.Ytkclfnmhiojklaa.Zn
