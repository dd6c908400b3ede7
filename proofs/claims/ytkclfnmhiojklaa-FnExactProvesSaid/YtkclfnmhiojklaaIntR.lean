/-
  A list of numbers (int64) as it lies in memory: one cell a number; a row of the call's own; what the laws do with one; the specification's l1Has.
-/
import Derived.Test.YtkclfnmhiojklaaNameQ
import Derived.OpenShut
import Derived.Laws.OwnMore
import Derived.Deep.OwnRows
import Derived.OwnWalk
import Derived.Laws.AppendOwn
import Derived.Lib.SmallJoins
namespace Go.Proofs.Ytkclfnmhiojklaa.Iv
open Go.ChangeShapes Go.WideShapes Go.ChangeAt Go.RowKit
open Go.Proofs.Ytkclfnmhiojklaa.Nm (hidIt)
set_option linter.unusedVariables false
def iat (L : List Int) (i : Nat) : Int := L.getD i 0
theorem iat_at {L : List Int} {i : Nat} (h : i < L.length) : iat L i = L[i] := by
  unfold iat
  rw [List.getD_eq_getElem?_getD, List.getElem?_eq_getElem h]
  rfl
abbrev icells (L : List Int) : List Value := L.map (Value.int .i64)
theorem icells_at {L : List Int} {i : Nat} (h : i < L.length) : (icells L)[i]? = some (.int .i64 (iat L i)) := by
  rw [iat_at h, List.getElem?_map, List.getElem?_eq_getElem h]
  rfl
theorem icells_one (L : List Int) : ∀ u ∈ icells L, u.oneCell' = true := by
  intro u hu
  obtain ⟨s, _, rfl⟩ := List.mem_map.1 hu
  rfl
/-- A slice at address a reads as the list L. -/
structure Rd (w : World) (a : Option Addr) (L : List Int) : Prop where
  cell : ∀ i, i < L.length → ∃ b off, a = some ⟨b, off, none⟩ ∧ w.cell? ⟨b, off + i, none⟩ = some (.int .i64 (iat L i))
theorem cell_block {w : World} {b o : Nat} {v : Value} (h : w.cell? ⟨b, o, none⟩ = some v) : b < w.heap.size := World.block_lt_of_cell? w ⟨b, o, none⟩ h
theorem Rd.kept {w w' : World} {a : Option Addr} {L : List Int} (h : Rd w a L) (k : Below w.heap.size w w') : Rd w' a L :=
  ⟨fun i hi => by
    obtain ⟨b, off, e, c0⟩ := h.cell i hi
    exact ⟨b, off, e, by rw [k.cell (by simpa using cell_block c0)]; exact c0⟩⟩
theorem Rd.alloc {w : World} {a : Option Addr} {L : List Int} (h : Rd w a L) (o : Obj) : Rd (w.alloc o) a L := h.kept ((Below.refl _ _).alloc (Nat.le_refl _) o)
theorem Rd.drew {w : World} {a : Option Addr} {L : List Int} (h : Rd w a L) : Rd w.drew a L := ⟨h.cell⟩
theorem Rd.nil (w : World) (a : Option Addr) : Rd w a [] := ⟨fun i hi => by simp at hi⟩
/-- The slice v owns the numbers L in a row of the call's own. -/
def Own (w : World) (base : Nat) (v : Value) (L : List Int) : Prop := w.ownsRow base 2 1 v L.length (icells L)
theorem Own.form {w : World} {base : Nat} {v : Value} {L : List Int} (h : Own w base v L) : ∃ a cap, v = .slice a L.length cap ∧ L.length ≤ cap ∧ cap ≤ maxLen ∧ Rd w a L ∧ (a = none → cap = 0) ∧ (∀ x, a = some x → ∃ g, x = ⟨g, 0, none⟩ ∧ base ≤ g ∧ g < w.heap.size) := by
  have h' := h
  rcases h.2 with ⟨rfl, h0⟩ | ⟨g, cap, cur, rfl, hb, hg, hn, hm, rest⟩
  · exact ⟨none, 0, by rw [h0], by omega, by decide, ⟨fun i hi => by omega⟩, fun _ => rfl, fun x hx => by cases hx⟩
  · refine ⟨some ⟨g, 0, none⟩, cap, rfl, hn, hm, ⟨fun i hi => ⟨g, 0, rfl, ?_⟩⟩, (fun e => by cases e), fun x hx => ⟨g, by cases hx; rfl, hb, (Array.getElem?_eq_some_iff.1 hg).1⟩⟩
    rw [Nat.zero_add, World.ownsRow.cellAt h' _ (by omega), icells_at hi]
theorem Own.kept {w w' : World} {base : Nat} {v : Value} {L : List Int} (h : Own w base v L) (k : Below w.heap.size w w') : Own w' base v L :=
  World.ownsRow.kept (row := none) h ⟨k.os, k.tape, k.output, k.size, fun i hi _ => k.block i hi⟩ (by cases v.ownBlock <;> simp)
theorem Own.alloc {w : World} {base : Nat} {v : Value} {L : List Int} (h : Own w base v L) (o : Obj) : Own (w.alloc o) base v L := World.ownsRow.alloc h o
theorem Own.drewN {w : World} {base : Nat} {v : Value} {L : List Int} (h : Own w base v L) (n : Nat) : Own (w.drewN n) base v L := h.kept ⟨rfl, rfl, rfl, Nat.le_refl _, fun _ _ => rfl⟩
theorem Own.only {w w' : World} {base c : Nat} {v : Value} {L : List Int} (h : Own w base v L) (k : Only c w w') (hc : c < base ∨ ∀ g, v.ownBlock = some g → g ≠ c) : Own w' base v L := by
  refine World.ownsRow.kept h (row := some c) ⟨k.os, k.tape, k.output, k.size, fun i hi hne => k.block i hi (fun e => hne (by rw [e]))⟩ ?_
  cases hv : v.ownBlock with
  | none => exact .inl rfl
  | some g =>
    refine .inr (fun e => ?_)
    cases e
    rcases hc with hc | hc
    · have := (World.ownsRow.lt h _ hv).1; omega
    · exact hc _ hv rfl
theorem Own.mono {w : World} {base b' : Nat} {v : Value} {L : List Int} (h : Own w base v L) (hb : b' ≤ base) : Own w b' v L := by
  refine ⟨h.1, ?_⟩
  rcases h.2 with h0 | ⟨g, cap, cur, e, hb', r⟩
  · exact .inl h0
  · exact .inr ⟨g, cap, cur, e, by omega, r⟩
theorem Own.new (w : World) : Own (w.alloc (.cells #[] 2)) w.heap.size (.slice (some ⟨w.heap.size, 0, none⟩) 0 0) [] :=
  World.ownsRow_made w #[] 0 (Nat.le_refl _) (by decide) rfl
theorem Own.more {w : World} {base : Nat} {v : Value} {L : List Int} {s : Int} (h : w.ownsRow base 2 1 v (L.length + 1) (icells L ++ [.int .i64 s])) : Own w base v (L ++ [s]) := by
  unfold Own
  rw [List.length_append, icells, List.map_append]
  exact h
theorem Own.free {w : World} {base g n cap : Nat} {L : List Int} (h : Own w base (.slice (some ⟨g, 0, none⟩) n cap) L) (j : Nat) : w.frozen? ⟨g, j, none⟩ = false := by
  obtain ⟨a, c', e, _⟩ := h.form
  cases e
  exact World.ownsRow.frozenAt h j
theorem Own.at {w : World} {base g n cap i : Nat} {L : List Int} (h : Own w base (.slice (some ⟨g, 0, none⟩) n cap) L) (hi : i < L.length) :
    w.cell? ⟨g, i, none⟩ = some (.int .i64 (iat L i)) ∧ w.frozen? ⟨g, i, none⟩ = false := by
  obtain ⟨a', c', e1, _, _, r, _⟩ := h.form
  cases e1
  obtain ⟨b', o', e2, k0⟩ := r.cell i hi
  cases e2
  exact ⟨by simpa using k0, h.free _⟩
theorem grown_below {w w' : World} {base B : Nat} {v : Value} {L : List Int} (h : Own w base v L) (g : w.grownBy w' v.ownBlock) (hB : B ≤ base) (hs : B ≤ w.heap.size) : Below B w w' :=
  ⟨g.os, g.tape, g.output, g.size, fun k hk => g.block k (by omega) (fun e => by have := (World.ownsRow.lt h k e.symm).1; omega)⟩
theorem Own.set {w : World} {base g n cap i : Nat} {L : List Int} (h : Own w base (.slice (some ⟨g, 0, none⟩) n cap) L) (s : Int) :
    Own (w.setCell ⟨g, i, none⟩ (.int .i64 s)) base (.slice (some ⟨g, 0, none⟩) n cap) (L.set i s) := by
  obtain ⟨a, c', e, _⟩ := h.form
  cases e
  have := (World.ownsRow.stored h i (.int .i64 s)).1
  unfold Own
  rw [List.length_set, icells, List.map_set]
  exact this
theorem ext_iat {L M : List Int} (hl : L.length = M.length) (h : ∀ i, i < L.length → iat L i = iat M i) : L = M := by
  apply List.ext_getElem hl
  intro i h1 h2
  have := h i h1
  rwa [iat_at h1, iat_at h2] at this
theorem iat_set {L : List Int} {i j : Nat} {x : Int} (h : i < L.length) : iat (L.set i x) j = if i = j then x else iat L j := by
  unfold iat
  rw [List.getD_eq_getElem?_getD, List.getD_eq_getElem?_getD, List.getElem?_set]
  by_cases e : i = j
  · subst e; simp [h]
  · simp [e]
/-- The slice at a, of capacity cap, that came in reads as L. -/
structure In (w : World) (a : Option Addr) (cap : Nat) (L : List Int) : Prop where
  rd : Rd w a L
  le : L.length ≤ cap
  cap : cap ≤ 9223372036854775807
theorem iat_take {zs : List Int} {n i : Nat} (h : i < n) : iat (zs.take n) i = iat zs i := by
  unfold iat
  rw [List.getD_eq_getElem?_getD, List.getD_eq_getElem?_getD, List.getElem?_take, if_pos h]
set_option maxRecDepth 100000 in
theorem szInt64S_any (a : Option Addr) (cap n : Nat) (l : Int) (w : World) (hl : n ≤ 9223372036854775807) (h0 : 0 ≤ l) (h1 : l ≤ 1048576) :
    Calls Try.prog 9 #[.slice a n cap, .int .i64 l] w fun e w' => ∃ r : Int, e = .returned (.int .i64 r) ∧ r ≤ l ∧ -1 ≤ r ∧ (0 ≤ r → n ≤ 1048576) ∧ w' = w := by
  have h2 : -9223372036854775808 ≤ l - (n : Int) := by omega
  have h3 : l - (n : Int) ≤ 9223372036854775807 := by omega
  by_cases hs2 : l - (n : Int) < 0
  · go_enter Try.func9, Try.ntmps9
    go_wp2
    go_ret
    exact ⟨-1, rfl, by omega, by omega, fun h => by omega, rfl⟩
  · have hn2 : n ≤ 1048576 := by omega
    go_enter Try.func9, Try.ntmps9
    go_wp2
    go_ret
    first | exact ⟨_, rfl, by omega, by omega, fun _ => hn2, rfl⟩ | exact ⟨_, rfl, by omega, by omega, rfl⟩ | exact ⟨_, rfl, by omega, rfl⟩
theorem infoI : (Try.prog.info? 2).map (fun i => (i.zero, i.size, i.bytes)) = some (some (.int .i64 0), 1, 8) := by kernel_rfl
theorem icells_zero (n : Nat) : icells (List.replicate n 0) = (madeCells #[.int .i64 0] n).toList := by rw [toList_madeCells_one, icells, List.map_replicate]
set_option maxRecDepth 100000 in
set_option maxHeartbeats 2000000 in
theorem toInt64S_any (a : Option Addr) (cap : Nat) (L : List Int) (w : World) (h : Rd w a L) (hl : L.length ≤ 1048576) :
    Calls Try.prog 14 #[.slice a L.length cap] w fun e w' => ∃ v, e = .returned v ∧ Own w' w.heap.size v L ∧ Below w.heap.size w w' := by
  generalize hn : L.length = n at *
  obtain ⟨i0, hi, hz0, hz1, hz2⟩ := info_parts infoI
  have HR := hidIt h
  have HN := hidIt hn
  clear h hn
  go_enter Try.func14, Try.ntmps14
  go_wp2_with (first
    | (at_make; refine wpList_make_full _ rfl _ _ 22 rfl w.heap.size 2 i0 (.int .i64 0) 1 Try.underlying22 hi hz0 hz1 _ _ _ _ n rfl rfl (by omega) (by omega) (by rw [hz2]; omega) (by unfold maxLen; omega) (Nat.le_refl _) ?_)
    | fail)
  intro w1 hown hgrow
  have HO : Hid (Own w1 w.heap.size (.slice (some ⟨w.heap.size, 0, none⟩) n n) (List.replicate n 0)) := by
    refine hidIt ?_
    unfold Own
    rw [List.length_replicate, icells_zero]
    exact hown
  have HB := hidIt ((Below.refl w.heap.size w).grown hgrow (Nat.le_refl _) (fun k hk => by cases hk))
  clear hown hgrow
  go_wp2_with (fail)
  go_loopw [4] (fun y wx => ∃ (i : Nat) (M : List Int), y = .int .i64 i ∧ i ≤ n ∧ M.length = n ∧ Hid (∀ j, j < i → iat M j = iat L j) ∧ Own wx w.heap.size (.slice (some ⟨w.heap.size, 0, none⟩) n n) M ∧ Below w.heap.size w wx) (fun y _ => (n - intOf y).toNat)
  case atStart => exact ⟨0, _, rfl, by omega, by simp, hidIt (fun j hj => by omega), HO.out, HB.out⟩
  case round =>
    obtain ⟨i, M, rfl, hin0, hM, hE, hO, hB⟩ := hrel
    have HRx := hidIt (HR.out.kept hB)
    have HBx := hidIt hB
    have HOx := hidIt hO
    have HM := hidIt hM
    clear hB hO HO HB hM
    by_cases hin : i < n
    · have hin' : (i : Int) < (n : Int) := by omega
      obtain ⟨b, off, rfl, c0⟩ := HRx.out.cell i (by rw [HN.out]; exact hin)
      generalize hx : iat L i = s at c0
      have HX := hidIt hx
      clear hx
      have hiM : i < M.length := by rw [HM.out]; exact hin
      have HO3 := hidIt (HOx.out.set (i := i) s)
      obtain ⟨c2, f0⟩ := HOx.out.at hiM
      clear HRx HOx
      have HMi := hidIt hiM
      clear hiM
      go_wp2_with (fail)
      refine ⟨⟨i + 1, _, by simp, by omega, by rw [List.length_set]; exact HM.out, hidIt (fun j hj => ?_), HO3.out, HBx.out.setCell (by simp) _⟩, by simp [intOf]; omega⟩
      rw [iat_set HMi.out]
      split
      · next e => subst e; exact HX.out.symm
      · exact hE.out j (by omega)
    · have hin' : ¬ (i : Int) < (n : Int) := by omega
      have e : M = L := ext_iat (by rw [HM.out, HN.out]) (fun j hj => hE.out j (by rw [HM.out] at hj; omega))
      subst e
      go_wp2_with (fail)
      go_ret
      exact ⟨_, rfl, HOx.out, HBx.out⟩
set_option maxRecDepth 100000 in
set_option maxHeartbeats 4000000 in
theorem eqInt64S_any (a b : Option Addr) (ca cb : Nat) (L : List Int) (w : World) (ha : Rd w a L) (hb : Rd w b L) (hl : L.length ≤ 9223372036854775806) :
    Calls Try.prog 18 #[.slice a L.length ca, .slice b L.length cb] w fun e w' => e = .returned (.bool true) ∧ Below w.heap.size w w' := by
  generalize hn : L.length = n at *
  have HA := hidIt ha
  have HB := hidIt hb
  have HN := hidIt hn
  clear ha hb hn
  have hnn : ((n : Int) != (n : Int)) = false := by simp
  go_enter Try.func18, Try.ntmps18
  go_wp2_with (fail)
  go_loopw [5] (fun y wx => ∃ i : Nat, y = .int .i64 i ∧ i ≤ n ∧ Below w.heap.size w wx) (fun y _ => (n - intOf y).toNat)
  case atStart => exact ⟨0, rfl, by omega, Below.refl _ _⟩
  case round =>
    obtain ⟨i, rfl, hi, hB⟩ := hrel
    have RA := hidIt (HA.out.kept hB)
    have RB := hidIt (HB.out.kept hB)
    have KX := hidIt hB
    clear hB
    by_cases hin : i < n
    · have hin' : (i : Int) < (n : Int) := by omega
      obtain ⟨b1, o1, rfl, c0⟩ := RA.out.cell i (by rw [HN.out]; omega)
      obtain ⟨b2, o2, rfl, d0⟩ := RB.out.cell i (by rw [HN.out]; omega)
      generalize iat L i = s at c0 d0
      clear RA RB HA HB
      go_wp2_with (fail)
      go_quiet (fail)
      go_wp2_with (fail)
      exact ⟨⟨i + 1, by simp, by omega, Go.Proofs.Ytkclfnmhiojklaa.Below.drewN KX.out _⟩, by simp [intOf]; omega⟩
    · have hin' : ¬ (i : Int) < (n : Int) := by omega
      go_wp2_with (fail)
      go_ret
      exact ⟨rfl, KX.out⟩
set_option maxRecDepth 100000 in
set_option maxHeartbeats 4000000 in
theorem l1Has_any (a : Option Addr) (cap : Nat) (L : List Int) (x : Int) (w : World) (h : Rd w a L) (hl : L.length ≤ 9223372036854775806) :
    Calls Try.prog 13 #[.slice a L.length cap, .int .i64 x] w fun e w' => e = .returned (.bool (decide (x ∈ L))) ∧ w' = w := by
  have hall : Hid (∀ i, i < L.length → iat L i = x → decide (x ∈ L) = true) := hidIt (fun i hi e => by
    rw [iat_at hi] at e
    exact decide_eq_true (e ▸ List.getElem_mem hi))
  have hnone : Hid ((∀ i, i < L.length → iat L i ≠ x) → decide (x ∈ L) = false) := hidIt (fun hh => by
    refine decide_eq_false (fun hm => ?_)
    obtain ⟨i, hi, e⟩ := List.mem_iff_getElem.1 hm
    exact hh i hi (by rw [iat_at hi]; exact e))
  generalize decide (x ∈ L) = r at hall hnone
  generalize hn : L.length = n at *
  have HR := hidIt h
  have HN := hidIt hn
  clear h hn
  go_enter Try.func13, Try.ntmps13
  go_wp2_with (fail)
  go_loopw [5] (fun y wx => ∃ i : Nat, y = .int .i64 i ∧ i ≤ n ∧ Hid (∀ j, j < i → iat L j ≠ x) ∧ Hid (wx = w)) (fun y _ => (n - intOf y).toNat)
  case atStart => exact ⟨0, rfl, by omega, hidIt (fun j hj => by omega), hidIt rfl⟩
  case round =>
    obtain ⟨i, rfl, hi, hE, HW⟩ := hrel
    have ew := HW.out
    subst ew
    by_cases hin : i < n
    · have hin' : (i : Int) < (n : Int) := by omega
      obtain ⟨b, off, rfl, c0⟩ := HR.out.cell i (by rw [HN.out]; exact hin)
      generalize hx : iat L i = s at c0
      by_cases es : s = x
      · have er := hall.out i hin (hx.trans es)
        subst es er
        have e2 : (s == s) = true := by simp
        clear hx hall hnone
        go_wp2_with (fail)
        go_ret
        exact ⟨rfl, rfl⟩
      · have e2 : (s == x) = false := by simp [es]
        have hE' : Hid (∀ j, j < i + 1 → iat L j ≠ x) := hidIt (fun j hj => by
          rcases Nat.lt_succ_iff_lt_or_eq.1 hj with h | h
          · exact hE.out j h
          · subst h; rw [hx]; exact es)
        clear hx hE
        go_wp2_with (fail)
        exact ⟨⟨i + 1, by simp, by omega, hE', by first | exact hidIt rfl | exact hidIt trivial⟩, by simp [intOf]; omega⟩
    · have hin' : ¬ (i : Int) < (n : Int) := by omega
      have ei : i = n := by omega
      subst ei
      have er := hnone.out hE.out
      subst er
      go_wp2_with (fail)
      go_ret
      exact ⟨rfl, rfl⟩
end Go.Proofs.Ytkclfnmhiojklaa.Iv
