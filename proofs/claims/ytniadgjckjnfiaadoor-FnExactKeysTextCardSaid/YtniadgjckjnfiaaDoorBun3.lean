/-
  A list of Points that came in: what is read of it.
  A Seal and a Deed that came in: what is read of them.
  Errors in memory: a package-level variable that holds an error of errors.New's make; an error of the program's own that wraps one, or none.
  sealFault and Holds of the program.
  KeysText of the program (a strings.Builder; a fault where something is not as told).
-/
import Derived.Test.YtniadgjckjnfiaaDoorBun1
import Derived.Deep.SlicePairs
import Derived.OpenShut
import Derived.Test.YtniadgjckjnfiaaDoorBun2
import Derived.Lib.SmallJoins
import Derived.Deep.Strs
import Derived.Test.YtniadgjckjnfiaaDoorBoxM
import Derived.Test.YtniadgjckjnfiaaDoorBldM
namespace Go.Proofs.YtniadgjckjnfiaaDoor.Pt
open Go.ChangeShapes Go.WideShapes Go.ChangeAt Go.RowKit
set_option linter.unusedVariables false
theorem lat_map (n : Nat) (f : Nat → Ln) (i : Nat) (hi : i < n) : lat ((List.range n).map f) i = f i := by
  unfold lat
  rw [List.getD_eq_getElem?_getD, List.getElem?_map, List.getElem?_range hi]
  rfl
set_option maxRecDepth 100000 in
theorem cellsLn : Tryd.prog.cellsOf 32 = 2 := by kernel_rfl
set_option maxRecDepth 100000 in
theorem cellsSm : Tryd.prog.cellsOf 2 = 1 := by kernel_rfl
set_option maxRecDepth 100000 in
theorem open_points_in {H : Type} {enc : TypeId × Value → H} {w : World} {base : Nat} {spare : Nat → Bool} {held : Bool} {fuel : Nat} {v : Value} {y : DataW H × List MemPlace} (hf : DataW.trod enc Tryd.prog w base spare held fuel 40 [v] = some y) :
    ∃ (a : Option Addr) (cap : Nat) (L : List Ln), v = .slice a L.length cap ∧ In w a cap L := by
  rcases Go.Deep.open_slice_pairs Tryd.underlying40 Tryd.underlying32 cellsLn rfl rfl cellsSm cellsSm hf with ⟨hcs, _⟩ | ⟨x, l, c, m, n, V0, V1, D0, D1, P0, P1, hcs, _, hl, hc, hm, _, hall⟩
  · simp at hcs
    subst hcs
    exact ⟨none, 0, [], rfl, Rd.nil _ _, Nat.zero_le _, by decide⟩
  · simp at hcs
    subst hcs
    have hlm : l ≤ m := by rw [hm]; split <;> omega
    have each : ∀ i, i < l → ∃ y : Ln, V0 i = .int .i64 y.1 ∧ V1 i = .int .i64 y.2 := by
      intro i hi
      obtain ⟨_, _, t0, t1⟩ := hall i (by omega)
      obtain ⟨s, e0, _, _⟩ := DataW.trod_int Tryd.underlying2 t0
      obtain ⟨q, e1, _, _⟩ := DataW.trod_int Tryd.underlying2 t1
      exact ⟨(s, q), by simpa using e0, by simpa using e1⟩
    haveI : Inhabited Ln := ⟨(0, 0)⟩
    obtain ⟨f, hf'⟩ := Go.Deep.choose_lt each
    refine ⟨some x, c, (List.range l).map f, by simp, ⟨fun i hi => ?_⟩, by simpa using hl, hc⟩
    have hi' : i < l := by simpa using hi
    obtain ⟨k0, k1, _, _⟩ := hall i (by omega)
    obtain ⟨e0, e1⟩ := hf' i hi'
    have z0 := (hall 0 (by omega)).1
    obtain ⟨b, off, spot⟩ := x
    have hspot : spot = none := by simpa [Addr.add] using World.cell?_spot z0
    subst hspot
    refine ⟨b, off, rfl, ?_, ?_⟩
    · rw [lat_map _ _ _ hi', ← e0, ← Go.WideShapes.add_plain]; exact k0
    · rw [lat_map _ _ _ hi', ← e1, Nat.add_assoc, ← Go.WideShapes.add_plain]; exact k1
set_option maxRecDepth 100000 in
theorem open_points {H : Type} {enc : TypeId × Value → H} {w : World} {r : Reach} {b0 base : Nat} {spare : Nat → Bool} {held : Bool} {v : Value} {d : DataW H} {p : List MemPlace} (hv : Value.okWide Tryd.prog w r b0 40 v) (h : DataW.Trod enc Tryd.prog w base spare held 40 v d p) :
    ∃ (a : Option Addr) (cap : Nat) (L : List Ln), v = .slice a L.length cap ∧ In w a cap L := by
  obtain ⟨a, len, cap, rfl⟩ := okWide_slice Tryd.underlying40 hv
  obtain ⟨fuel, hf⟩ := h
  exact open_points_in hf
end Go.Proofs.YtniadgjckjnfiaaDoor.Pt
namespace Go.Proofs.YtniadgjckjnfiaaDoor.Dd
open Go.ChangeShapes Go.WideShapes Go.ChangeAt Go.RowKit
open Go.Proofs.YtniadgjckjnfiaaDoor.Pt (Ln)
set_option linter.unusedVariables false
theorem array6 {cs : Array Value} (h : cs.size = 6) : ∃ a b c d e f, cs = #[a, b, c, d, e, f] := by
  obtain ⟨l⟩ := cs
  match l, h with
  | [a, b, c, d, e, f], _ => exact ⟨a, b, c, d, e, f, rfl⟩
theorem array8 {cs : Array Value} (h : cs.size = 8) : ∃ a b c d e f g i, cs = #[a, b, c, d, e, f, g, i] := by
  obtain ⟨l⟩ := cs
  match l, h with
  | [a, b, c, d, e, f, g, i], _ => exact ⟨a, b, c, d, e, f, g, i, rfl⟩
theorem cellsP : Tryd.prog.cellsOf 32 = 2 := by kernel_rfl
theorem cellsG : Tryd.prog.cellsOf 34 = 3 := by kernel_rfl
theorem cellsS : Tryd.prog.cellsOf 36 = 6 := by kernel_rfl
theorem cellsI : Tryd.prog.cellsOf 2 = 1 := by kernel_rfl
set_option maxRecDepth 100000 in
theorem open_seal_in {H : Type} {enc : TypeId × Value → H} {w : World} {base : Nat} {spare : Nat → Bool} {held : Bool} {fuel : Nat} {c0 c1 c2 c3 c4 c5 : Value} {y : DataW H × List MemPlace} (hf : DataW.trod enc Tryd.prog w base spare held fuel 36 [c0, c1, c2, c3, c4, c5] = some y) :
    ∃ k1 k2 u r1 r2 t : Int, c0 = .int .i64 k1 ∧ c1 = .int .i64 k2 ∧ c2 = .int .i64 u ∧ c3 = .int .i64 r1 ∧ c4 = .int .i64 r2 ∧ c5 = .int .i64 t := by
  obtain ⟨y0, y1, y2, n, _, _, h0, h1, h2⟩ := Go.Deep.trod_struct3 Tryd.underlying36 hf
  obtain ⟨z0, z1, m, _, _, g0, g1⟩ := trod_struct2 Tryd.underlying32 h0
  obtain ⟨x0, x1, m', _, _, e0, e1⟩ := trod_struct2 Tryd.underlying34 h2
  obtain ⟨v0, v1, m2, _, _, d0, d1⟩ := trod_struct2 Tryd.underlying32 e0
  obtain ⟨k1, q0, _, _⟩ := DataW.trod_int Tryd.underlying2 g0
  obtain ⟨k2, q1, _, _⟩ := DataW.trod_int Tryd.underlying2 g1
  obtain ⟨u, q2, _, _⟩ := DataW.trod_int Tryd.underlying2 h1
  obtain ⟨r1, q3, _, _⟩ := DataW.trod_int Tryd.underlying2 d0
  obtain ⟨r2, q4, _, _⟩ := DataW.trod_int Tryd.underlying2 d1
  obtain ⟨t, q5, _, _⟩ := DataW.trod_int Tryd.underlying2 e1
  simp [cellsP, cellsG, cellsI] at q0 q1 q2 q3 q4 q5
  exact ⟨k1, k2, u, r1, r2, t, q0, q1, q2, q3, q4, q5⟩
set_option maxRecDepth 100000 in
theorem open_seal {H : Type} {enc : TypeId × Value → H} {w : World} {r : Reach} {b0 base : Nat} {spare : Nat → Bool} {held : Bool} {v : Value} {d : DataW H} {p : List MemPlace} (hv : Value.okWide Tryd.prog w r b0 36 v) (h : DataW.Trod enc Tryd.prog w base spare held 36 v d p) :
    ∃ k1 k2 u r1 r2 t : Int, v = sv k1 k2 u r1 r2 t := by
  obtain ⟨cs, rfl, hsz⟩ := okWide_struct Tryd.underlying36 hv
  obtain ⟨c0, c1, c2, c3, c4, c5, rfl⟩ := array6 (hsz.trans cellsS)
  obtain ⟨fuel, hf⟩ := h
  obtain ⟨k1, k2, u, r1, r2, t, rfl, rfl, rfl, rfl, rfl, rfl⟩ := open_seal_in hf
  exact ⟨k1, k2, u, r1, r2, t, rfl⟩
theorem cellsD : Tryd.prog.cellsOf 48 = 8 := by kernel_rfl
theorem cellsT : Tryd.prog.cellsOf 9 = 1 := by kernel_rfl
theorem cellsK : Tryd.prog.cellsOf 40 = 1 := by kernel_rfl
set_option maxRecDepth 100000 in
theorem open_deed {H : Type} {enc : TypeId × Value → H} {w : World} {r : Reach} {b0 base : Nat} {spare : Nat → Bool} {held : Bool} {v : Value} {d : DataW H} {p : List MemPlace} (hv : Value.okWide Tryd.prog w r b0 48 v) (h : DataW.Trod enc Tryd.prog w base spare held 48 v d p) :
    ∃ (z : ByteArray) (a : Option Addr) (cap : Nat) (L : List Ln) (k1 k2 u r1 r2 t : Int), v = dv z (.slice a L.length cap) k1 k2 u r1 r2 t ∧ z.size ≤ 9223372036854775807 ∧ Pt.In w a cap L := by
  obtain ⟨cs, rfl, hsz⟩ := okWide_struct Tryd.underlying48 hv
  obtain ⟨c0, c1, c2, c3, c4, c5, c6, c7, rfl⟩ := array8 (hsz.trans cellsD)
  obtain ⟨fuel, hf⟩ := h
  obtain ⟨y0, y1, y2, n, _, _, h0, h1, h2⟩ := Go.Deep.trod_struct3 Tryd.underlying48 hf
  simp only [cellsT, cellsK, cellsS, Value.cells] at h0 h1 h2
  obtain ⟨k1, k2, u, r1, r2, t, rfl, rfl, rfl, rfl, rfl, rfl⟩ := open_seal_in h2
  obtain ⟨a, cap, L, rfl, hin⟩ := Pt.open_points_in h1
  obtain ⟨z, e0, _, hz⟩ := DataW.trod_string Tryd.underlying9 h0
  have e0' : c0 = .string z := by simpa using e0
  subst e0'
  exact ⟨z, a, cap, L, k1, k2, u, r1, r2, t, rfl, hz, hin⟩
end Go.Proofs.YtniadgjckjnfiaaDoor.Dd
namespace Go.Proofs.YtniadgjckjnfiaaDoor.Se
open Go.RowKit
open Go.Proofs.YtniadgjckjnfiaaDoor.Bo (Box Box.new Box.kept)
set_option linter.unusedVariables false
/-- The package-level variable g holds the error of errors.New's make that lies at a. -/
def At (w : World) (g : Nat) (a : Addr) : Prop := w.cell? ⟨g, 0, none⟩ = some (.iface 163 (.pointer (some a)))
theorem At.kept {w w' : World} {g : Nat} {a : Addr} (h : At w g a) (k : Below w.heap.size w w') : At w' g a := by
  unfold At at h ⊢
  rw [k.cell (World.block_lt_of_cell? _ _ h)]
  exact h
theorem At.c {w : World} {g : Nat} {a : Addr} (h : At w g a) : w.cell? ⟨g, 0, none⟩ = some (.iface 163 (.pointer (some a))) := h
/-- The error v: none, or one of the program's own of the part p that wraps the error at a. -/
def Res (w : World) (v : Value) (r : Option (ByteArray × Addr)) : Prop :=
  (r = none ∧ v = .nilIface) ∨ ∃ p a b, r = some (p, a) ∧ v = .iface 89 (.pointer (some ⟨b, 0, none⟩)) ∧ Box w b #[.string p, .iface 163 (.pointer (some a))]
theorem Res.kept {w w' : World} {v : Value} {r : Option (ByteArray × Addr)} (h : Res w v r) (k : Below w.heap.size w w') : Res w' v r := by
  rcases h with h | ⟨p, a, b, h1, h2, h3⟩
  · exact .inl h
  · exact .inr ⟨p, a, b, h1, h2, h3.kept k⟩
theorem Res.none (w : World) : Res w .nilIface none := .inl ⟨rfl, rfl⟩
theorem Res.new (w : World) (p : ByteArray) (a : Addr) : Res (w.alloc (.cells #[.string p, .iface 163 (.pointer (some a))] 91)) (.iface 89 (.pointer (some ⟨w.heap.size, 0, Option.none⟩))) (some (p, a)) :=
  .inr ⟨p, a, w.heap.size, rfl, rfl, Box.new _ _ _⟩
theorem Res.newAt {w : World} {p : ByteArray} {a : Addr} {k : Nat} (h : w.heap.size = k) : Res (w.alloc (.cells #[.string p, .iface 163 (.pointer (some a))] 91)) (.iface 89 (.pointer (some ⟨k, 0, Option.none⟩))) (some (p, a)) := by
  subst h
  exact Res.new w p a
theorem Res.drew {w : World} {v : Value} {r : Option (ByteArray × Addr)} (h : Res w v r) : Res w.drew v r := by
  rcases h with h | ⟨p, a, b, h1, h2, h3⟩
  · exact .inl h
  · exact .inr ⟨p, a, b, h1, h2, h3.drew⟩
end Go.Proofs.YtniadgjckjnfiaaDoor.Se
namespace Go.Proofs.YtniadgjckjnfiaaDoor.Dd
open Go.ChangeShapes Go.WideShapes Go.ChangeAt Go.RowKit
open Cv Cu Sg
open Go.Proofs.YtniadgjckjnfiaaDoor.Bo (Box Box.new Box.newAt Box.kept Box.alloc Box.put Box.other Box.c Box.drew)
open Go.Proofs.YtniadgjckjnfiaaDoor.Ro (timB secB inB)
open Go.Proofs.YtniadgjckjnfiaaDoor.Rc (BelowBy wp_region_below calls_below calls_same)
set_option linter.unusedVariables false
abbrev keyS : ByteArray := ⟨#[75, 101, 121]⟩
theorem ne_key {p : ByteArray} {a : Addr} (h : p ≠ keyS) : ∀ x, some (p, a) = some x → x.1 ≠ keyS := fun x hx => by
  cases hx
  exact h
set_option maxRecDepth 100000 in
set_option maxHeartbeats 4000000 in
theorem impl_sealFault (K1 K2 u R1 R2 T : Int) (s : ByteArray) (now : Int) (eN eV eO : Addr) (w : World) (ht : Tab w) (hN : Se.At w 0 eN) (hV : Se.At w 1 eV) (hO : Se.At w 2 eO) (hs : s.size ≤ 4611686018427370000) :
    Calls Tryd.prog 36 #[sv K1 K2 u R1 R2 T, .string s, .int .i64 now] w fun e w' => ∃ v r, e = .returned v ∧ Se.Res w' v r ∧ r.isNone = holdsB K1 K2 u R1 R2 T s now ∧ (∀ x, r = some x → x.1 ≠ keyS) ∧ Below w.heap.size w w' := by
  have CU := hidIt (fun W => impl_timeOk u W)
  have CN := hidIt (fun W => impl_timeOk now W)
  have CX : Hid (timB u = true → ∀ W, Tab W → Calls Tryd.prog 29 #[.int .i64 u, .string s] W fun e w' => e = .returned (.string (stx u.toNat s)) ∧ Below W.heap.size W w') := hidIt (fun h W t => by
    obtain ⟨m, rfl, hm⟩ := tim_nat h
    exact impl_sealed m s W hm hs t)
  have CV : Hid (timB u = true → ∀ W, Tab W → Calls Tryd.prog 55 #[.agg #[.int .i64 K1, .int .i64 K2], .string (stx u.toNat s), .agg #[.int .i64 R1, .int .i64 R2, .int .i64 T]] W fun e w' => e = .returned (.bool (validB K1 K2 (stx u.toNat s) R1 R2 T)) ∧ Below W.heap.size W w') := hidIt (fun h W t => by
    obtain ⟨m, rfl, hm⟩ := tim_nat h
    exact impl_Valid_any K1 K2 (stx m s) R1 R2 T W t (by have := stx_size (u := m) (s := s) (by omega); omega))
  have BA := hidIt (Box.new w (sc K1 K2 u R1 R2 T) 27)
  have HB : Hid (Below w.heap.size w (w.alloc (.cells (sc K1 K2 u R1 R2 T) 27))) := hidIt ((Below.refl w.heap.size w).alloc (Nat.le_refl _) _)
  have cN := (hN.kept HB.out).c
  have cV := (hV.kept HB.out).c
  have HT := hidIt ht
  have HO := hidIt hO
  clear ht hN hV hO
  have c2 := BA.out.c 2 (v := .int .i64 u) rfl
  unfold holdsB
  generalize validB K1 K2 (stx u.toNat s) R1 R2 T = va at CV ⊢
  generalize stx u.toNat s = tx at CX CV
  cases hn : timB now with
  | false =>
    rw [hn] at CN
    clear hn
    go_enter Tryd.func36, Tryd.ntmps36
    go_wp2_with (go_at_call 27; refine (CN.out _).mono ?_; rintro e w1 ⟨rfl, rfl⟩)
    go_ret
    exact ⟨_, some (_, _), rfl, Se.Res.newAt (by simp), by simp, ne_key (by decide), HB.out.alloc HB.out.size _⟩
  | true =>
    rw [hn] at CN
    clear hn
    cases hu : timB u with
    | false =>
      rw [hu] at CU
      clear hu
      go_enter Tryd.func36, Tryd.ntmps36
      go_wp2_with (go_at_call 27; (first | (with_reducible refine (CN.out _).mono ?_) | (with_reducible refine (CU.out _).mono ?_)); rintro e w1 ⟨rfl, rfl⟩)
      go_ret
      exact ⟨_, some (_, _), rfl, Se.Res.newAt (by simp), by simp, ne_key (by decide), HB.out.alloc HB.out.size _⟩
    | true =>
      replace CX := hidIt (CX.out hu)
      replace CV := hidIt (CV.out hu)
      rw [hu] at CU
      clear hu
      by_cases hle : u ≤ now
      · have hd : decide (now < u) = false := decide_eq_false (by omega)
        rw [hd]
        clear hd
        go_enter Tryd.func36, Tryd.ntmps36
        go_wp2_with (go_at_call 27; (first | (with_reducible refine (CN.out _).mono ?_) | (with_reducible refine (CU.out _).mono ?_)); rintro e w1 ⟨rfl, rfl⟩)
        go_ret
        exact ⟨_, some (_, _), rfl, Se.Res.newAt (by simp), by simp, ne_key (by decide), HB.out.alloc HB.out.size _⟩
      · have hd : decide (now < u) = true := decide_eq_true (by omega)
        rw [hd]
        clear hd
        go_enter Tryd.func36, Tryd.ntmps36
        go_upto_region 7 with (go_at_call 27; (first | (with_reducible refine (CN.out _).mono ?_) | (with_reducible refine (CU.out _).mono ?_)); rintro e w1 ⟨rfl, rfl⟩)
        clear cN cV c2
        generalize w.alloc (.cells (sc K1 K2 u R1 R2 T) 27) = wz at BA HB ⊢
        haveI := BelowBy.one wz
        have g0 := fun p : BelowBy wz => p.cell (BA.out.c 0 (v := .int .i64 K1) rfl)
        have g1 := fun p : BelowBy wz => p.cell (BA.out.c 1 (v := .int .i64 K2) rfl)
        have g2 := fun p : BelowBy wz => p.cell (BA.out.c 2 (v := .int .i64 u) rfl)
        have g3 := fun p : BelowBy wz => p.cell (BA.out.c 3 (v := .int .i64 R1) rfl)
        have g4 := fun p : BelowBy wz => p.cell (BA.out.c 4 (v := .int .i64 R2) rfl)
        have g5 := fun p : BelowBy wz => p.cell (BA.out.c 5 (v := .int .i64 T) rfl)
        have TP := hidIt (fun p : BelowBy wz => (HT.out.kept HB.out).kept p.h)
        refine wp_region_below (by kernel_rfl) (by kernel_rfl) ?_
        repeat (go_big_quiet_step (first | (go_at_call 29; exact calls_below (CX.out _ (TP.out _))) | (go_at_call 55; exact calls_below (CV.out _ (TP.out _)))))
        refine wpQuiet_nil ?_
        intro _ hw'
        obtain ⟨pq, rfl⟩ := hw'
        have k2 := pq.h
        generalize pq.world = w2 at k2 ⊢
        replace HB := hidIt (HB.out.trans (k2.mono HB.out.size))
        clear k2 g0 g1 g2 g3 g4 g5
        have cO := (HO.out.kept HB.out).c
        cases va with
        | false =>
          go_wp2_with (fail)
          go_ret
          exact ⟨_, some (_, _), rfl, Se.Res.newAt (by simp), by simp, ne_key (by decide), HB.out.alloc HB.out.size _⟩
        | true =>
          go_wp2_with (fail)
          go_ret
          exact ⟨_, _, rfl, Se.Res.none _, by simp, (fun x hx => by cases hx), HB.out⟩
set_option maxRecDepth 100000 in
set_option maxHeartbeats 4000000 in
theorem impl_Holds (K1 K2 u R1 R2 T : Int) (s : ByteArray) (now : Int) (eN eV eO : Addr) (w : World) (ht : Tab w) (hN : Se.At w 0 eN) (hV : Se.At w 1 eV) (hO : Se.At w 2 eO) (hs : s.size ≤ 4611686018427370000) :
    Calls Tryd.prog 12 #[sv K1 K2 u R1 R2 T, .string s, .int .i64 now] w fun e w' => e = .returned (.bool (holdsB K1 K2 u R1 R2 T s now)) ∧ Below w.heap.size w w' := by
  have HB : Hid (Below w.heap.size w (w.alloc (.cells (sc K1 K2 u R1 R2 T) 27))) := hidIt ((Below.refl w.heap.size w).alloc (Nat.le_refl _) _)
  have CF := hidIt (impl_sealFault K1 K2 u R1 R2 T s now eN eV eO _ (ht.kept HB.out) (hN.kept HB.out) (hV.kept HB.out) (hO.kept HB.out) hs)
  clear ht hN hV hO
  generalize holdsB K1 K2 u R1 R2 T s now = h at CF ⊢
  go_enter Tryd.func12, Tryd.ntmps12
  go_wp2_with (fail)
  refine CF.out.mono ?_
  rintro e w1 ⟨v, r, rfl, hR, hr, _, k⟩
  replace HB := hidIt (HB.out.trans (k.mono HB.out.size))
  clear k CF
  rcases hR with ⟨rfl, rfl⟩ | ⟨p, a, b, rfl, rfl, _⟩
  · go_wp2_with (fail)
    go_ret
    refine ⟨?_, HB.out⟩
    rw [← hr]
    rfl
  · go_wp2_with (fail)
    go_ret
    refine ⟨?_, HB.out⟩
    rw [← hr]
    rfl
end Go.Proofs.YtniadgjckjnfiaaDoor.Dd
namespace Go.Proofs.YtniadgjckjnfiaaDoor.Dd
open Go.ChangeShapes Go.WideShapes Go.ChangeAt Go.RowKit
open Cv Cu Sg
open Go.Proofs.YtniadgjckjnfiaaDoor.Pt (Ln lat)
open Go.Proofs.YtniadgjckjnfiaaDoor.Bl (Bld Bld.new Bld.kept writeString_any string_any)
open Go.Proofs.YtniadgjckjnfiaaDoor.Bo (Box Box.new Box.newAt Box.kept Box.alloc Box.put Box.other Box.c Box.drew)
set_option linter.unusedVariables false
theorem keys_fit {L : List Ln} (h : ¬ L.length ≤ 4) : keysB L = false := by
  unfold keysB
  rw [decide_eq_false h, Bool.and_false]
theorem keysT_no {L : List Ln} (h : keysB L = false) : keysT L = ⟨#[]⟩ := by
  unfold keysT
  rw [h]
  rfl
theorem keysT_yes {L : List Ln} (h : keysB L = true) : keysT L = ktx L := by
  unfold keysT
  rw [h]
  rfl
theorem ktx_len {L : List Ln} {i : Nat} (h : (L.take i).all okP = true) (hi : i ≤ L.length) (h4 : L.length ≤ 4) : (ktx (L.take i)).size ≤ 176 := by
  have e : ∀ j, j < (L.take i).length → okP (lat (L.take i) j) = true := fun j hj => by
    rw [lat_eq hj]
    exact List.all_eq_true.1 h _ (List.getElem_mem hj)
  have := ktx_size e (L.take i).length (Nat.le_refl _)
  rw [List.take_length, List.length_take] at this
  omega
set_option maxRecDepth 100000 in
set_option maxHeartbeats 4000000 in
theorem impl_keysText (a : Option Addr) (cap : Nat) (L : List Ln) (eN eM : Addr) (w : World) (h : Pt.Rd w a L) (ht : Tab w) (hN : Se.At w 0 eN) (hM : Se.At w 3 eM) (hl : L.length ≤ 9223372036854775806) :
    Calls Tryd.prog 39 #[.slice a L.length cap] w fun e w' => ∃ v r, e = .returned (.tuple #[.string (keysT L), v]) ∧ Se.Res w' v r ∧ r.isNone = keysB L ∧ Below w.heap.size w w' := by
  by_cases h4 : L.length ≤ 4
  · have hbad : Hid (∀ i, i < L.length → okP (lat L i) = false → keysB L = false ∧ keysT L = ⟨#[]⟩) := hidIt (fun i hi k => ⟨keys_bad hi k, keysT_no (keys_bad hi k)⟩)
    have hend : Hid ((L.take L.length).all okP = true → keysB L = true ∧ keysT L = ktx (L.take L.length)) := hidIt (fun k => by
      have e : keysB L = true := by rw [keys_end k]; exact decide_eq_true h4
      exact ⟨e, by rw [keysT_yes e, List.take_length]⟩)
    have hst : Hid (∀ i, i < L.length → (L.take i).all okP = true → okP (lat L i) = true → (L.take (i + 1)).all okP = true) := hidIt (fun i hi h1 h2 => Nm.all_take hi h1 (by rw [← lat_eq hi]; exact h2))
    have htk : Hid (∀ i, i < L.length → ktx (L.take (i + 1)) = ktx (L.take i) ++ ptS (lat L i).1.toNat (lat L i).2.toNat) := hidIt (fun i hi => ktx_take hi)
    have hsz : Hid (∀ i, i ≤ L.length → (L.take i).all okP = true → (ktx (L.take i)).size ≤ 176) := hidIt (fun i hi k => ktx_len k hi h4)
    have HR := hidIt h
    have HT := hidIt ht
    have HN := hidIt hN
    clear h ht hN hM
    generalize keysB L = kb at hbad hend ⊢
    generalize keysT L = kt at hbad hend ⊢
    generalize hn : L.length = n at *
    have HL := hidIt hn
    clear hn
    have g4 : ¬ (n : Int) > 4 := by omega
    have HD := hidIt (Bld.new w)
    go_enter Tryd.func39, Tryd.ntmps39
    go_wp2_with (fail)
    go_loopw [16] (fun y wx => ∃ i : Nat, y = .int .i64 i ∧ i ≤ n ∧ Hid ((L.take i).all okP = true) ∧ Hid (Bld wx w.heap.size w.heap.size (ktx (L.take i)).data.toList) ∧ Hid (Below w.heap.size w wx)) (fun y _ => (n - intOf y).toNat)
    case atStart => exact ⟨0, rfl, by omega, hidIt rfl, HD, hidIt ((Below.refl _ _).alloc (Nat.le_refl _) _)⟩
    case round =>
      obtain ⟨i, rfl, hi, HA, HDx, HBx⟩ := hrel
      have hs1 := hsz.out i hi HA.out
      rcases Nat.lt_or_ge i n with hin | hin
      · have g2 : (i : Int) < (n : Int) := by omega
        obtain ⟨b, off, rfl, c0, c1⟩ := (HR.out.kept HBx.out).cell i (by rw [HL.out]; exact hin)
        have HS := hidIt (htk.out i hin)
        have Hb := hidIt (hbad.out i hin)
        have Hs := hidIt (hst.out i hin HA.out)
        have hq : okP (lat L i) = okI (lat L i).1 (lat L i).2 := rfl
        rw [hq] at Hb Hs
        clear hq
        have HK := hidIt (fun W => impl_PointOk (lat L i).1 (lat L i).2 W)
        generalize lat L i = p at *
        obtain ⟨x, y⟩ := p
        simp only at HK c0 c1 Hb Hs HS
        have kA := (Below.refl wr.heap.size wr).alloc (Nat.le_refl _) (.cells #[.int .i64 x, .int .i64 y] 23)
        have BX := hidIt (Box.new wr #[.int .i64 x, .int .i64 y] 23)
        have HDy := hidIt (HDx.out.kept kA)
        have HBy := hidIt (HBx.out.trans (kA.mono HBx.out.size))
        clear kA
        cases hk : okI x y with
        | false =>
          rw [hk] at HK
          obtain ⟨rfl, rfl⟩ := Hb.out hk
          clear hk
          go_wp2_with (fail)
          refine (HK.out _).mono ?_
          rintro e w1 ⟨rfl, k⟩
          replace HBy := hidIt (HBy.out.trans (k.mono HBy.out.size))
          clear k
          have cN := (HN.out.kept HBy.out).c
          go_wp2_with (fail)
          go_region
          all_goals
            go_wp2_with (fail)
            refine bodyPost_ret (v := .tuple #[.string ⟨#[]⟩, .iface 89 (.pointer (some ⟨w1.heap.size, 0, none⟩))]) (by simp [results, Tryd.results39, go_sem]) rfl ⟨_, some (_, _), rfl, (Se.Res.newAt rfl).drew, rfl, (HBy.out.alloc HBy.out.size _).drew⟩
        | true =>
          rw [hk] at HK
          have HA3 := hidIt (Hs.out hk)
          obtain ⟨x, y, rfl, rfl, hxy⟩ := okI_nat hk
          have hle := ok_le hxy
          have hs2 := ptS_size x y hle.1 hle.2
          have ep : ptS x y = (numS x ++ ⟨#[32]⟩) ++ (numS y ++ ⟨#[32]⟩) := by unfold ptS; simp only [ByteArray.append_assoc]; rfl
          simp only [Int.toNat_natCast] at HS
          rw [ep] at HS hs2
          have CX := hidIt (fun W t => impl_withBlank x W hle.1 t)
          have CY := hidIt (fun W t => impl_withBlank y W hle.2 t)
          clear hk hxy hle ep
          rw [ByteArray.size_append] at hs2
          generalize numS x ++ ⟨#[32]⟩ = tx at CX HS hs2
          generalize numS y ++ ⟨#[32]⟩ = ty at CY HS hs2
          generalize ktx (L.take i) = v at HS hs1 HDy HDx
          have q1 : ¬ 9223372036854775807 < tx.size + ty.size := by omega
          go_wp2_with (fail)
          refine (HK.out _).mono ?_
          rintro e w1 ⟨rfl, k⟩
          replace HBy := hidIt (HBy.out.trans (k.mono HBy.out.size))
          replace HDy := hidIt (HDy.out.kept k)
          replace BX := hidIt (BX.out.kept k)
          clear k
          have d0 := BX.out.c 0 (v := .int .i64 x) rfl
          have d1 := BX.out.c 1 (v := .int .i64 y) rfl
          have HTz := hidIt (HT.out.kept HBy.out)
          have HTd := hidIt (HTz.out.kept ((Below.refl w1.heap.size w1).drew))
          go_upto_region 9 with fail
          go_region_with (first
            | (go_at_call 52; first
              | ((with_reducible refine (CX.out _ HTd.out).mono ?_); rintro e wA ⟨rfl, kA⟩; have k := (Below.refl w1.heap.size w1).drew.trans kA; have HBA := hidIt (HBy.out.trans (k.mono HBy.out.size)); have HDA := hidIt (HDy.out.kept k); have BXA := hidIt (BX.out.kept k); have HTA := hidIt (HTz.out.kept k); clear k kA; have d1A := BXA.out.c 1 (v := .int .i64 y) rfl)
              | ((with_reducible refine (CY.out _ HTA.out).mono ?_); rintro e wB ⟨rfl, k⟩; have HBB := hidIt (HBA.out.trans (k.mono HBA.out.size)); have HDB := hidIt (HDA.out.kept k); clear k))
            | (go_at_call 58; refine (writeString_any _ _ _ (tx ++ ty) _ HDB.out (by rw [Array.length_toList, ByteArray.size_append]; show v.size + (tx.size + ty.size) ≤ _; omega)).mono ?_; rintro e wC ⟨rfl, hD, k⟩; have HDC := hidIt hD; have HBC := hidIt (HBB.out.trans k); clear hD k))
          all_goals
            go_wp2_with (fail)
            refine ⟨⟨i + 1, by simp, by omega, HA3, hidIt ?_, HBC⟩, by simp [intOf]; omega⟩
            rw [HS.out, ByteArray.data_append, Array.toList_append]
            exact HDC.out
      · have g2 : ¬ (i : Int) < (n : Int) := by omega
        have e : i = n := by omega
        subst e
        obtain ⟨rfl, rfl⟩ := hend.out HA.out
        have CS := hidIt (string_any _ _ _ _ HDx.out)
        go_wp2_with (fail)
        refine CS.out.mono ?_
        rintro e w3 ⟨rfl, k3⟩
        have HB3 := hidIt (HBx.out.trans k3)
        go_wp2_with (fail)
        refine bodyPost_ret (v := .tuple #[.string ⟨(ktx (L.take i)).data.toList.toArray⟩, .nilIface]) (by simp [results, Tryd.results39, go_sem]) rfl ⟨_, _, rfl, Se.Res.none _, rfl, HB3.out⟩
  · rw [keysT_no (keys_fit h4), keys_fit h4]
    have cM := hM.c
    have HW := hidIt (Below.refl w.heap.size w)
    generalize hn : L.length = n at *
    have g4 : (n : Int) > 4 := by omega
    clear h ht hN hM
    go_enter Tryd.func39, Tryd.ntmps39
    go_wp2_with (fail)
    go_region
    all_goals
      go_wp2_with (fail)
      refine bodyPost_ret (v := .tuple #[.string ⟨#[]⟩, .iface 89 (.pointer (some ⟨w.heap.size, 0, none⟩))]) (by simp [results, Tryd.results39, go_sem]) rfl ⟨_, some (_, _), rfl, (Se.Res.newAt rfl).drew, rfl, (HW.out.alloc HW.out.size _).drew⟩
set_option maxRecDepth 100000 in
set_option maxHeartbeats 4000000 in
theorem impl_KeysText (a : Option Addr) (cap : Nat) (L : List Ln) (eN eM : Addr) (w : World) (h : Pt.Rd w a L) (ht : Tab w) (hN : Se.At w 0 eN) (hM : Se.At w 3 eM) (hl : L.length ≤ 9223372036854775806) :
    Calls Tryd.prog 16 #[.slice a L.length cap] w fun e w' => e = .returned (.string (keysT L)) ∧ Below w.heap.size w w' := by
  have CK := hidIt (impl_keysText a cap L eN eM w h ht hN hM hl)
  clear h ht hN hM
  generalize hn : L.length = n at *
  clear hn
  go_enter Tryd.func16, Tryd.ntmps16
  go_wp2_with (fail)
  refine CK.out.mono ?_
  rintro e w1 ⟨v, r, rfl, _, _, k⟩
  have HB := hidIt k
  clear k CK
  go_wp2_with (fail)
  go_ret
  exact ⟨rfl, HB.out⟩
end Go.Proofs.YtniadgjckjnfiaaDoor.Dd
