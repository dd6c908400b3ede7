/-
  Steps through a law: what a call that makes memory leaves of cells, of the bytes of a draw, of what was.
  A region that draws its order, whose operations only read, and whose callees leave all that lay below unturned: walked once, in the order of the text, in every world in which all that lay stays as it was.
  What the laws do with one Member and with a list of them: the measure, the copy, whether two are alike. (Written by wip/mkrow.py.)
  Marks written into a list of Members of the call's own, and looked for again. (Written by wip/mkrow.py.)
  A Roll (five numbers): RollOk of the specification; what the laws do with a Roll.
-/
import Derived.Test.YtllajhieocploaaGreatDoorLawC2
import Derived.Test.YtllajhieocploaaGreatDoorDraw
import Derived.Test.YtllajhieocploaaGreatDoorMem
import Derived.Deep.QuietTactic
import Derived.BigQuiet
import Derived.Test.YtllajhieocploaaGreatDoorMem2M
import Derived.Handy
import Derived.Test.YtllajhieocploaaGreatDoorProg
import Derived.BigCall
import Derived.BigGuard
import Derived.OpenShut
import Derived.Deep.RegionHeld3
namespace Go.Proofs.YtllajhieocploaaGreatDoor.Cv
open Go.ChangeShapes Go.WideShapes Go.ChangeAt Go.RowKit
open Cu
theorem Tw.next {w w' : World} {b : Nat} {x y : Int} (h : Tw w b x y) (k : Below w.heap.size w w') : Tw w' b x y := h.kept k h.lt
theorem Tw.step {w w' : World} {o : Obj} {b : Nat} {x y : Int} (h : Tw w b x y) (k : Below (w.alloc o).heap.size (w.alloc o) w') : Tw w' b x y :=
  Tw.next (Tw.kept h ((Below.refl w.heap.size w).alloc (Nat.le_refl _) o) h.lt) k
theorem Tw.old {w : World} {o : Obj} {b : Nat} {x y : Int} (h : Tw w b x y) : Tw (w.alloc o) b x y :=
  Tw.kept h ((Below.refl w.heap.size w).alloc (Nat.le_refl _) o) h.lt
theorem Tw.fresh {w w' : World} {x y : Int} {T : TypeId} (k : Below (w.alloc (.cells #[.int .i64 x, .int .i64 y] T)).heap.size (w.alloc (.cells #[.int .i64 x, .int .i64 y] T)) w') : Tw w' w.heap.size x y :=
  Tw.next (Tw.newAt rfl) k
theorem code_next {w w' : World} {a : Option Addr} {len : Nat} (h : Dr.Code w.heap.size w a len) (k : Below w.heap.size w w') : Dr.Code w'.heap.size w' a len := h.kept k
theorem code_old {w : World} {o : Obj} {a : Option Addr} {len : Nat} (h : Dr.Code w.heap.size w a len) : Dr.Code (w.alloc o).heap.size (w.alloc o) a len := h.kept ((Below.refl w.heap.size w).alloc (Nat.le_refl _) o)
theorem code_step {w w' : World} {o : Obj} {a : Option Addr} {len : Nat} (h : Dr.Code w.heap.size w a len) (k : Below (w.alloc o).heap.size (w.alloc o) w') : Dr.Code w'.heap.size w' a len := (code_old h).kept k
theorem below_next {w0 w w' : World} (h : Below w0.heap.size w0 w) (k : Below w.heap.size w w') : Below w0.heap.size w0 w' := h.trans (k.mono h.size)
theorem below_old {w0 w : World} {o : Obj} (h : Below w0.heap.size w0 w) : Below w0.heap.size w0 (w.alloc o) := h.alloc h.size o
theorem below_step {w0 w w' : World} {o : Obj} (h : Below w0.heap.size w0 w) (k : Below (w.alloc o).heap.size (w.alloc o) w') : Below w0.heap.size w0 w' := below_next (below_old h) k
theorem held8 {W wA : World} {b0 b1 b2 b3 : Nat} {a0 a1 a2 a3 a4 a5 a6 a7 : Value} (k : Below W.heap.size W wA) (h : W.cell? ⟨b0, 0, none⟩ = some a0 ∧ W.cell? ⟨b0, 1, none⟩ = some a1 ∧ W.cell? ⟨b1, 0, none⟩ = some a2 ∧ W.cell? ⟨b1, 1, none⟩ = some a3 ∧ W.cell? ⟨b2, 0, none⟩ = some a4 ∧ W.cell? ⟨b2, 1, none⟩ = some a5 ∧ W.cell? ⟨b3, 0, none⟩ = some a6 ∧ W.cell? ⟨b3, 1, none⟩ = some a7) (l0 : b0 < W.heap.size) (l1 : b1 < W.heap.size) (l2 : b2 < W.heap.size) (l3 : b3 < W.heap.size) :
    wA.cell? ⟨b0, 0, none⟩ = some a0 ∧ wA.cell? ⟨b0, 1, none⟩ = some a1 ∧ wA.cell? ⟨b1, 0, none⟩ = some a2 ∧ wA.cell? ⟨b1, 1, none⟩ = some a3 ∧ wA.cell? ⟨b2, 0, none⟩ = some a4 ∧ wA.cell? ⟨b2, 1, none⟩ = some a5 ∧ wA.cell? ⟨b3, 0, none⟩ = some a6 ∧ wA.cell? ⟨b3, 1, none⟩ = some a7 := by
  rw [k.cell (p := ⟨b0, 0, none⟩) l0, k.cell (p := ⟨b0, 1, none⟩) l0, k.cell (p := ⟨b1, 0, none⟩) l1, k.cell (p := ⟨b1, 1, none⟩) l1, k.cell (p := ⟨b2, 0, none⟩) l2, k.cell (p := ⟨b2, 1, none⟩) l2, k.cell (p := ⟨b3, 0, none⟩) l3, k.cell (p := ⟨b3, 1, none⟩) l3]
  exact h
theorem held8_drew {W wA : World} {b0 b1 b2 b3 : Nat} {a0 a1 a2 a3 a4 a5 a6 a7 : Value} (k : Below W.drew.heap.size W.drew wA) (h : W.cell? ⟨b0, 0, none⟩ = some a0 ∧ W.cell? ⟨b0, 1, none⟩ = some a1 ∧ W.cell? ⟨b1, 0, none⟩ = some a2 ∧ W.cell? ⟨b1, 1, none⟩ = some a3 ∧ W.cell? ⟨b2, 0, none⟩ = some a4 ∧ W.cell? ⟨b2, 1, none⟩ = some a5 ∧ W.cell? ⟨b3, 0, none⟩ = some a6 ∧ W.cell? ⟨b3, 1, none⟩ = some a7) (l0 : b0 < W.heap.size) (l1 : b1 < W.heap.size) (l2 : b2 < W.heap.size) (l3 : b3 < W.heap.size) :
    wA.cell? ⟨b0, 0, none⟩ = some a0 ∧ wA.cell? ⟨b0, 1, none⟩ = some a1 ∧ wA.cell? ⟨b1, 0, none⟩ = some a2 ∧ wA.cell? ⟨b1, 1, none⟩ = some a3 ∧ wA.cell? ⟨b2, 0, none⟩ = some a4 ∧ wA.cell? ⟨b2, 1, none⟩ = some a5 ∧ wA.cell? ⟨b3, 0, none⟩ = some a6 ∧ wA.cell? ⟨b3, 1, none⟩ = some a7 := held8 (W := W.drew) k h l0 l1 l2 l3
end Go.Proofs.YtllajhieocploaaGreatDoor.Cv
namespace Go.Proofs.YtllajhieocploaaGreatDoor.Rc
open Go.RowKit
/-- A world in which all that lay in w lies unturned. -/
structure BelowBy (w : World) where
  world : World
  h : Below w.heap.size w world
theorem BelowBy.one (w : World) : Nonempty (BelowBy w) := ⟨⟨w, Below.refl _ _⟩⟩
theorem BelowBy.cell {w : World} (p : BelowBy w) {a : Addr} {v : Value} (h : w.cell? a = some v) : p.world.cell? a = some v := by
  rw [p.h.cell (World.block_lt_of_cell? w a h)]
  exact h
theorem wp_region_below {P : Program} {id : Nat} {Q : Exit → Act → World → Prop} {a : Act} {w : World} {l : List Oper} (hm : P.follows .mixedOrders = true) (hB : Region.lexB .any l.toArray = true)
    (h : wpQuiet P l.toArray (fun w' => ∃ p : BelowBy w, w' = p.world) (fun a' => ∀ w', (∃ p : BelowBy w, w' = p.world) → Q .normal a' w') l a) : (Code.region id l.toArray true).wp P Q a w :=
  wp_region_quiet (C := fun w' => ∃ p : BelowBy w, w' = p.world) hm hB ⟨⟨w.drew, (Below.refl _ w).drew⟩, rfl⟩ (by simpa using h)
theorem calls_below {P : Program} {f : FuncId} {args : Array Value} {w : World} {p : BelowBy w} {v : Value} (h : Calls P f args p.world fun e w' => e = .returned v ∧ Below p.world.heap.size p.world w') :
    Calls P f args p.world fun e w' => e = .returned v ∧ ∃ p : BelowBy w, w' = p.world :=
  h.mono fun _ w' ⟨he, k⟩ => ⟨he, ⟨w', p.h.trans (k.mono p.h.size)⟩, rfl⟩
theorem calls_same {P : Program} {f : FuncId} {args : Array Value} {w : World} {p : BelowBy w} {v : Value} (h : Calls P f args p.world fun e w' => e = .returned v ∧ w' = p.world) :
    Calls P f args p.world fun e w' => e = .returned v ∧ ∃ p : BelowBy w, w' = p.world :=
  h.mono fun _ _ ⟨he, k⟩ => ⟨he, p, k⟩
end Go.Proofs.YtllajhieocploaaGreatDoor.Rc
namespace Go.Proofs.YtllajhieocploaaGreatDoor.Mm
open Go.ChangeShapes Go.WideShapes Go.ChangeAt Go.RowKit
open Go.Proofs.YtllajhieocploaaGreatDoor.Rc (BelowBy BelowBy.one wp_region_below calls_below calls_same)
set_option linter.unusedVariables false
/-- What a measure leaves: no more than there was, and less by how many there are. -/
structure Le2 (r l : Int) (m : Nat) : Prop where
  le : r ≤ l
  sum : 0 ≤ r → r + (m : Int) ≤ l
set_option maxRecDepth 100000 in
set_option maxHeartbeats 4000000 in
theorem to_any (x : Rw) (w : World) : Calls Tryz.prog 93 #[rv x] w fun e w' => e = .returned (rv x) ∧ Below w.heap.size w w' := by
  obtain ⟨x0, x1, x2⟩ := x
  go_enter Tryz.func93, Tryz.ntmps93
  go_wp2
  refine bodyPost_ret (v := rv (x0, x1, x2)) (by simp [results, Tryz.results93, go_sem]) rfl ⟨rfl, ?_⟩
  go_grown
set_option maxRecDepth 100000 in
set_option maxHeartbeats 4000000 in
theorem eq_same (x : Rw) (w : World) : Calls Tryz.prog 105 #[rv x, rv x] w fun e w' => e = .returned (.bool true) ∧ Below w.heap.size w w' := by
  obtain ⟨x0, x1, x2⟩ := x
  go_enter Tryz.func105, Tryz.ntmps105
  go_wp2
  go_ret
  exact ⟨rfl, by go_grown⟩
set_option maxRecDepth 100000 in
set_option maxHeartbeats 4000000 in
theorem szS_any (a : Option Addr) (cap : Nat) (L : List Rw) (l : Int) (w : World) (h : Rd w a L) (hl : L.length ≤ 9223372036854775807) (h0 : 0 ≤ l) (h1 : l ≤ 1048576) :
    Calls Tryz.prog 52 #[.slice a L.length cap, .int .i64 l] w fun e w' => ∃ r : Int, e = .returned (.int .i64 r) ∧ Le2 r l L.length ∧ (0 ≤ r → L.length ≤ 1048576) ∧ Below w.heap.size w w' := by
  generalize hn : L.length = m at *
  clear h hn
  have h2 : -9223372036854775808 ≤ l - (m : Int) := by omega
  have h3 : l - (m : Int) ≤ 9223372036854775807 := by omega
  by_cases hlt : l - (m : Int) < 0
  · go_enter Tryz.func52, Tryz.ntmps52
    go_wp2
    go_ret
    first | exact ⟨-1, rfl, ⟨by omega, fun h => by omega⟩, fun h => by omega, Below.refl _ _⟩ | exact ⟨⟨by omega, fun h => by omega⟩, Below.refl _ _⟩
  · go_enter Tryz.func52, Tryz.ntmps52
    go_wp2
    go_ret
    first | exact ⟨_, rfl, ⟨by omega, fun h => by omega⟩, fun h => by omega, Below.refl _ _⟩ | exact ⟨⟨by omega, fun h => by omega⟩, fun h => by omega, Below.refl _ _⟩
theorem rcells_zero (m : Nat) : rcells (List.replicate m (0, 0, 0)) = (madeCells #[.int .i64 0, .int .i64 0, .int .i64 0] (m * 3)).toList := by
  apply List.ext_getElem?
  intro x
  by_cases hx : x < m * 3
  · have e : x = x / 3 * 3 + x % 3 := by omega
    have h1 := rcells_get (List.replicate m (0, 0, 0)) (x / 3) (x % 3) (by rw [List.length_replicate]; omega) (by omega)
    rw [← e] at h1
    have h2 : rat (List.replicate m (0, 0, 0)) (x / 3) = (0, 0, 0) := by
      rw [rat_at (by rw [List.length_replicate]; omega), List.getElem_replicate]
    rw [h1, h2]
    have h3 : x % 3 = 0 ∨ x % 3 = 1 ∨ x % 3 = 2 := by omega
    rcases h3 with h | h | h <;> simp [madeCells, hx, h, rcell]
  · rw [List.getElem?_eq_none (by rw [rcells_length, List.length_replicate]; omega), List.getElem?_eq_none (by simp [madeCells]; omega)]
set_option maxRecDepth 100000 in
set_option maxHeartbeats 4000000 in
theorem toS_any (a : Option Addr) (cap : Nat) (L : List Rw) (w : World) (h : Rd w a L) (hl : L.length ≤ 1048576) :
    Calls Tryz.prog 60 #[.slice a L.length cap] w fun e w' => ∃ v, e = .returned v ∧ Own w' w.heap.size v L ∧ Below w.heap.size w w' := by
  generalize hn : L.length = m at *
  obtain ⟨i0, hi, hz0, hz1, hz2⟩ := info_parts infoRw
  have HR := hidIt h
  have HN := hidIt hn
  clear h hn
  go_enter Tryz.func60, Tryz.ntmps60
  go_wp2_with (first
    | (at_make; refine wpList_make_full _ rfl _ _ 35 rfl w.heap.size 100 i0 (.agg #[.int .i64 0, .int .i64 0, .int .i64 0]) 3 Tryz.underlying35 hi hz0 hz1 _ _ _ _ m rfl rfl (by omega) (by omega) (by rw [hz2]; omega) (by unfold maxLen; omega) (Nat.le_refl _) ?_)
    | fail)
  intro w1 hown hgrow
  have HO : Hid (Own w1 w.heap.size (.slice (some ⟨w.heap.size, 0, none⟩) m m) (List.replicate m (0, 0, 0))) := by
    refine hidIt ?_
    unfold Own
    rw [List.length_replicate, rcells_zero]
    exact hown
  have HB := hidIt ((Below.refl w.heap.size w).grown hgrow (Nat.le_refl _) (fun k hk => by cases hk))
  clear hown hgrow
  go_wp2_with (fail)
  go_loopw [4] (fun y wx => ∃ (i : Nat) (M : List Rw), y = .int .i64 i ∧ i ≤ m ∧ M.length = m ∧ Hid (∀ j, j < i → rat M j = rat L j) ∧ Hid (Own wx w.heap.size (.slice (some ⟨w.heap.size, 0, none⟩) m m) M) ∧ Hid (Below w.heap.size w wx)) (fun y _ => (m - intOf y).toNat)
  case atStart => exact ⟨0, _, rfl, by omega, by simp, hidIt (fun j hj => by omega), HO, HB⟩
  case round =>
    obtain ⟨i, M, rfl, hin0, hM, hE, HOx, HBx⟩ := hrel
    have HRx := hidIt (HR.out.kept HBx.out)
    have HM := hidIt hM
    clear HO HB hM
    by_cases hin : i < m
    · have hin' : (i : Int) < (m : Int) := by omega
      obtain ⟨b, off, rfl, c0, c1, c2⟩ := HRx.out.all (i := i) (by rw [HN.out]; exact hin)
      generalize hx : rat L i = x at c0 c1 c2
      have HX := hidIt hx
      clear hx
      obtain ⟨x0, x1, x2⟩ := x
      simp only at c0 c1 c2
      have hC := to_any (x0, x1, x2)
      simp only [rv] at hC
      have HC := hidIt hC
      clear hC
      go_wp2_with (fail)
      refine (HC.out _).mono ?_
      rintro e w2 ⟨rfl, hb2⟩
      have HB2 := hidIt (HBx.out.trans (hb2.mono HBx.out.size))
      have HO2 := hidIt (HOx.out.kept hb2)
      have hiM : i < M.length := by rw [HM.out]; exact hin
      have HO3 := hidIt (HO2.out.whole hiM (x0, x1, x2))
      have z0 := HO2.out.at hiM (j := 0) (by omega)
      have z1 := HO2.out.at hiM (j := 1) (by omega)
      have z2 := HO2.out.at hiM (j := 2) (by omega)
      have f0 := HO2.out.free (i * 3)
      have f1 := HO2.out.free (i * 3 + 1)
      have f2 := HO2.out.free (i * 3 + 2)
      simp only [rcell, Nat.add_zero] at z0 z1 z2
      clear hb2 HRx HBx HOx HO2 HC
      have HMi := hidIt hiM
      clear hiM
      go_wp2_with (fail)
      refine ⟨⟨i + 1, _, by simp, by omega, by rw [List.length_set]; exact HM.out, hidIt (fun j hj => ?_), HO3, hidIt (((HB2.out.setCell (by simp) _).setCell (by simp) _).setCell (by simp) _)⟩, by simp [intOf]; omega⟩
      rw [rat_set HMi.out]
      split
      · next e => subst e; exact HX.out.symm
      · exact hE.out j (by omega)
    · have hin' : ¬ (i : Int) < (m : Int) := by omega
      have e : M = L := ext_rat (by rw [HM.out, HN.out]) (fun j hj => hE.out j (by rw [HM.out] at hj; omega))
      subst e
      go_wp2_with (fail)
      go_ret
      exact ⟨_, rfl, HOx.out, HBx.out⟩
set_option maxRecDepth 100000 in
set_option maxHeartbeats 4000000 in
theorem eqS_same (a a' : Option Addr) (cap cap' : Nat) (L : List Rw) (w : World) (h : Rd w a L) (h' : Rd w a' L) (hl : L.length ≤ 9223372036854775807) :
    Calls Tryz.prog 71 #[.slice a L.length cap, .slice a' L.length cap'] w fun e w' => e = .returned (.bool true) ∧ Below w.heap.size w w' := by
  generalize hn : L.length = m at *
  have HA := hidIt h
  have HA' := hidIt h'
  have HN := hidIt hn
  clear h h' hn
  have hmm : ((m : Int) != (m : Int)) = false := by simp
  go_enter Tryz.func71, Tryz.ntmps71
  go_wp2_with (fail)
  go_loopw [5] (fun y wx => ∃ i : Nat, y = .int .i64 i ∧ i ≤ m ∧ Hid (Below w.heap.size w wx)) (fun y _ => (m - intOf y).toNat)
  case atStart => exact ⟨0, rfl, by omega, hidIt (Below.refl _ _)⟩
  case round =>
    obtain ⟨i, rfl, hi, hB⟩ := hrel
    by_cases hin : i < m
    · have hin' : (i : Int) < (m : Int) := by omega
      obtain ⟨b, off, rfl, c0, c1, c2⟩ := (HA.out.kept hB.out).all (i := i) (by rw [HN.out]; exact hin)
      obtain ⟨b', off', rfl, d0, d1, d2⟩ := (HA'.out.kept hB.out).all (i := i) (by rw [HN.out]; exact hin)
      have hC := eq_same (rat L i)
      generalize rat L i = x at c0 c1 c2 d0 d1 d2 hC
      obtain ⟨x0, x1, x2⟩ := x
      simp only [rv] at hC c0 c1 c2 d0 d1 d2
      have HC := hidIt hC
      clear hC
      haveI := BelowBy.one wr
      have g0 := fun p : BelowBy wr => p.cell c0
      have g1 := fun p : BelowBy wr => p.cell c1
      have g2 := fun p : BelowBy wr => p.cell c2
      have k0 := fun p : BelowBy wr => p.cell d0
      have k1 := fun p : BelowBy wr => p.cell d1
      have k2 := fun p : BelowBy wr => p.cell d2
      go_wp2_with (fail)
      refine wp_region_below (by kernel_rfl) (by kernel_rfl) ?_
      repeat (go_big_quiet_step (first | (go_at_call 105; refine calls_below (HC.out _))))
      refine wpQuiet_nil ?_
      intro _ hw'
      obtain ⟨pq, rfl⟩ := hw'
      have hB1 := hidIt (hB.out.trans (pq.h.mono hB.out.size))
      generalize pq.world = w2 at hB1 ⊢
      clear c0 c1 c2 d0 d1 d2 g0 g1 g2 k0 k1 k2
      go_wp2_with (fail)
      exact ⟨⟨i + 1, by simp, by omega, hB1⟩, by simp [intOf]; omega⟩
    · have hin' : ¬ (i : Int) < (m : Int) := by omega
      go_wp2_with (fail)
      go_ret
      exact ⟨rfl, hB.out⟩
end Go.Proofs.YtllajhieocploaaGreatDoor.Mm
namespace Go.Proofs.YtllajhieocploaaGreatDoor.Mm
open Go.ChangeShapes Go.WideShapes Go.ChangeAt Go.RowKit
open Go.Proofs.YtllajhieocploaaGreatDoor.Rc (BelowBy BelowBy.one BelowBy.cell wp_region_below calls_below calls_same)
set_option linter.unusedVariables false
set_option linter.unusedSimpArgs false
/-- The marks of m Members from number k on. -/
def markX (k m : Nat) : List Rw := (List.range m).map fun j => (((k + 3 * j : Nat) : Int), ((k + 3 * j + 1 : Nat) : Int), ((k + 3 * j + 2 : Nat) : Int))
theorem markX_length (k m : Nat) : (markX k m).length = m := by simp [markX]
theorem rat_markX (k m j : Nat) (h : j < m) : rat (markX k m) j = (((k + 3 * j : Nat) : Int), ((k + 3 * j + 1 : Nat) : Int), ((k + 3 * j + 2 : Nat) : Int)) := by
  unfold markX
  rw [rat_map _ _ _ h]
theorem set_self {L : List Rw} {i : Nat} : L.set i (rat L i) = L := by
  by_cases h : i < L.length
  · apply ext_rat (by rw [List.length_set])
    intro t ht
    rw [rat_set h]
    split
    · next e => rw [e]
    · rfl
  · rw [List.set_eq_of_length_le (by omega)]
theorem Own.put0 {w : World} {base g m cap i : Nat} {L : List Rw} {y0 y1 y2} (h : Own w base (.slice (some ⟨g, 0, none⟩) m cap) (L.set i (y0, y1, y2))) (hi : i < L.length) (v : Int) : Own (w.setCell ⟨g, i * 3, none⟩ (.int .i64 v)) base (.slice (some ⟨g, 0, none⟩) m cap) (L.set i (v, y1, y2)) := by
  have h1 := h.set (i := i) (j := 0) (v := .int .i64 v) (y := (v, y1, y2)) (by rw [List.length_set]; exact hi) (by omega) (fun k hk => by
    rw [rat_set hi, if_pos rfl]
    match k, hk with
    | 0, _ => rfl
    | 1, _ => rfl
    | 2, _ => rfl)
  rw [List.set_set] at h1
  exact h1
theorem Own.put1 {w : World} {base g m cap i : Nat} {L : List Rw} {y0 y1 y2} (h : Own w base (.slice (some ⟨g, 0, none⟩) m cap) (L.set i (y0, y1, y2))) (hi : i < L.length) (v : Int) : Own (w.setCell ⟨g, i * 3 + 1, none⟩ (.int .i64 v)) base (.slice (some ⟨g, 0, none⟩) m cap) (L.set i (y0, v, y2)) := by
  have h1 := h.set (i := i) (j := 1) (v := .int .i64 v) (y := (y0, v, y2)) (by rw [List.length_set]; exact hi) (by omega) (fun k hk => by
    rw [rat_set hi, if_pos rfl]
    match k, hk with
    | 0, _ => rfl
    | 1, _ => rfl
    | 2, _ => rfl)
  rw [List.set_set] at h1
  exact h1
theorem Own.put2 {w : World} {base g m cap i : Nat} {L : List Rw} {y0 y1 y2} (h : Own w base (.slice (some ⟨g, 0, none⟩) m cap) (L.set i (y0, y1, y2))) (hi : i < L.length) (v : Int) : Own (w.setCell ⟨g, i * 3 + 2, none⟩ (.int .i64 v)) base (.slice (some ⟨g, 0, none⟩) m cap) (L.set i (y0, y1, v)) := by
  have h1 := h.set (i := i) (j := 2) (v := .int .i64 v) (y := (y0, y1, v)) (by rw [List.length_set]; exact hi) (by omega) (fun k hk => by
    rw [rat_set hi, if_pos rfl]
    match k, hk with
    | 0, _ => rfl
    | 1, _ => rfl
    | 2, _ => rfl)
  rw [List.set_set] at h1
  exact h1
set_option maxRecDepth 100000 in
set_option maxHeartbeats 8000000 in
theorem markS_any (base : Nat) (v : Value) (L : List Rw) (k : Nat) (w : World) (h : Own w base v L) (h1 : 1 ≤ k) (h2 : k + 3 * L.length ≤ 1099511627776) :
    Calls Tryz.prog 85 #[v, .int .i64 k] w fun e w' => e = .returned (.int .i64 ((k + 3 * L.length : Nat) : Int)) ∧ Own w' base v (markX k L.length) ∧ Only (ob w v) w w' := by
  obtain ⟨a, cap, rfl, hcap, hcm, hR, hna, hsome⟩ := h.form
  cases a with
  | none =>
    have e := hR.none_nil
    subst e
    have e := hna rfl
    subst e
    clear hsome hna
    go_enter Tryz.func85, Tryz.ntmps85
    go_wp2_with (fail)
    refine wp_loop_rounds 1 ?_
    rw [rounds_succ]
    go_wp2_with (fail)
    go_ret
    exact ⟨by simp, h, Only.refl _ _⟩
  | some x =>
    obtain ⟨g, rfl, hbg, hgl⟩ := hsome x rfl
    have eo : ob w (.slice (some ⟨g, 0, none⟩) L.length cap) = g := rfl
    rw [eo]
    have HO := hidIt h
    generalize hn : L.length = m at *
    have HN := hidIt hn
    clear h hR hna hsome hn eo hcm
    go_enter Tryz.func85, Tryz.ntmps85
    go_wp2_with (fail)
    go_loopw [1, 5] (fun z y wx => ∃ (i : Nat) (M : List Rw), y = .int .i64 i ∧ z = .int .i64 ((k + 3 * i : Nat) : Int) ∧ i ≤ m ∧ M.length = m ∧ Hid (∀ j, j < i → rat M j = (((k + 3 * j : Nat) : Int), ((k + 3 * j + 1 : Nat) : Int), ((k + 3 * j + 2 : Nat) : Int))) ∧ Hid (Own wx base (.slice (some ⟨g, 0, none⟩) m cap) M) ∧ Hid (Only g w wx)) (fun _ y _ => (m - intOf y).toNat)
    case atStart => exact ⟨0, L, rfl, rfl, by omega, HN.out, hidIt (fun j hj => by omega), HO, hidIt (Only.refl _ _)⟩
    case round =>
      obtain ⟨i, M, rfl, rfl, hi, hM, hE, HOx, HY⟩ := hrel
      have HM := hidIt hM
      clear hM HO
      by_cases hin : i < m
      · have hin' : (i : Int) < (m : Int) := by omega
        have HMi : Hid (i < M.length) := hidIt (by rw [HM.out]; exact hin)
        generalize hk : k + 3 * i = q
        have HK := hidIt hk
        clear hk
        have q1 : q + 3 ≤ 1099511627776 := by have := HK.out; omega
        have HEY : Hid (((q : Int), (q : Int) + 1, (q : Int) + 1 + 1) = (((q : Nat) : Int), ((q + 1 : Nat) : Int), ((q + 2 : Nat) : Int))) := hidIt (by rw [show (q : Int) + 1 + 1 = ((q + 2 : Nat) : Int) by omega, show (q : Int) + 1 = ((q + 1 : Nat) : Int) by omega])
        have HO : Hid (Own wr base (.slice (some ⟨g, 0, none⟩) m cap) (M.set i (rat M i))) := hidIt (by rw [set_self]; exact HOx.out)
        clear HOx
        generalize rat M i = r at HO
        obtain ⟨r0, r1, r2⟩ := r
        have z0 := HO.out.at (i := i) (by rw [List.length_set]; exact HMi.out) (j := 0) (by omega)
        have f0 := HO.out.free (i * 3)
        have z1 := HO.out.at (i := i) (by rw [List.length_set]; exact HMi.out) (j := 1) (by omega)
        have f1 := HO.out.free (i * 3 + 1)
        have z2 := HO.out.at (i := i) (by rw [List.length_set]; exact HMi.out) (j := 2) (by omega)
        have f2 := HO.out.free (i * 3 + 2)
        simp only [rcell, Nat.add_zero] at z0 z1 z2
        replace HO := hidIt (((HO.out.put0 HMi.out ((q : Int))).put1 HMi.out ((q : Int) + 1)).put2 HMi.out ((q : Int) + 1 + 1))
        replace HY := hidIt (((HY.out.setCell (i * 3) (.int .i64 ((q : Int)))).setCell (i * 3 + 1) (.int .i64 ((q : Int) + 1))).setCell (i * 3 + 2) (.int .i64 ((q : Int) + 1 + 1)))
        go_wp2_with (fail)
        refine ⟨⟨i + 1, _, by simp, ?_, by omega, by rw [List.length_set]; exact HM.out, hidIt (fun j hj => ?_), HO, HY⟩, by simp [intOf]; omega⟩
        · have := HK.out
          congr 1
          omega
        · rw [rat_set HMi.out]
          split
          · next e =>
            subst e
            rw [HK.out, ← HEY.out]
          · exact hE.out j (by omega)
      · have hin' : ¬ (i : Int) < (m : Int) := by omega
        have HI : Hid (i = m) := hidIt (by omega)
        have e : M = markX k m := ext_rat (by rw [HM.out, markX_length]) (fun j hj => by rw [HM.out] at hj; rw [hE.out j (by have := HI.out; omega), rat_markX _ _ _ hj])
        subst e
        have ei : i = m := HI.out
        subst ei
        generalize hk : k + 3 * i = q
        go_wp2_with (fail)
        go_ret
        exact ⟨rfl, HOx.out, HY.out⟩
end Go.Proofs.YtllajhieocploaaGreatDoor.Mm
namespace Go.Proofs.YtllajhieocploaaGreatDoor.Ro
open Go.ChangeShapes Go.WideShapes Go.ChangeAt Go.RowKit
set_option linter.unusedVariables false
theorem hidIt {p : Prop} (h : p) : Hid p := h
/-- A Roll as a value. -/
abbrev rv (p m o n a : Int) : Value := .agg #[.int .i64 p, .int .i64 m, .int .i64 o, .int .i64 n, .int .i64 a]
abbrev rbox (p m o n a : Int) (T : TypeId) : Obj := .cells #[.int .i64 p, .int .i64 m, .int .i64 o, .int .i64 n, .int .i64 a] T
def inB (n lo hi : Int) : Bool := decide (lo ≤ n) && decide (n ≤ hi)
abbrev secB (n : Int) : Bool := inB n 1 2548
abbrev timB (n : Int) : Bool := inB n 0 1000000
/-- RollOk of the tests: secrets, time, stable, New is none, Phase 2 or 3, New a secret. -/
def rollB (p : Int) (sm so ta : Bool) (z : Bool) (ph sn : Bool) : Bool := sm && (so && (ta && (if p = 1 then z else (ph && sn))))
theorem rollB_other {p : Int} (h : p ≠ 1) {z ph sn : Bool} : rollB p true true true z ph sn = (ph && sn) := by simp [rollB, h]
def rollOk (p m o n a : Int) : Bool := rollB p (secB m) (secB o) (timB a) (n == 0) (inB p 2 3) (secB n)
set_option maxHeartbeats 2000000 in
theorem spec_l1In (n lo hi : Int) (w : World) : Calls Tryz.prog 55 #[.int .i64 n, .int .i64 lo, .int .i64 hi] w fun e w' => e = .returned (.bool (inB n lo hi)) ∧ w' = w := by
  unfold inB
  by_cases h : lo ≤ n
  · have h' : decide (lo ≤ n) = true := decide_eq_true h
    rw [h', Bool.true_and]
    go_enter Tryz.func55, Tryz.ntmps55
    go_wp2
    go_ret
    exact ⟨rfl, rfl⟩
  · have h' : decide (lo ≤ n) = false := decide_eq_false h
    rw [h', Bool.false_and]
    go_enter Tryz.func55, Tryz.ntmps55
    go_wp2
    go_ret
    exact ⟨rfl, rfl⟩
theorem spec_l3Secret (n : Int) (w : World) : Calls Tryz.prog 56 #[.int .i64 n] w fun e w' => e = .returned (.bool (secB n)) ∧ w' = w := by
  unfold secB
  have C := hidIt (fun W => spec_l1In n 1 2548 W)
  generalize inB n 1 2548 = b at C ⊢
  go_enter Tryz.func56, Tryz.ntmps56
  go_wp2_with (fail)
  refine (C.out _).mono ?_
  rintro e w1 ⟨rfl, rfl⟩
  go_wp2_with (fail)
  go_ret
  exact ⟨rfl, rfl⟩
theorem spec_l9Time (n : Int) (w : World) : Calls Tryz.prog 38 #[.int .i64 n] w fun e w' => e = .returned (.bool (timB n)) ∧ w' = w := by
  unfold timB
  have C := hidIt (fun W => spec_l1In n 0 1000000 W)
  generalize inB n 0 1000000 = b at C ⊢
  go_enter Tryz.func38, Tryz.ntmps38
  go_wp2_with (fail)
  refine (C.out _).mono ?_
  rintro e w1 ⟨rfl, rfl⟩
  go_wp2_with (fail)
  go_ret
  exact ⟨rfl, rfl⟩
set_option maxRecDepth 100000 in
set_option maxHeartbeats 4000000 in
theorem spec_RollOk (p m o n a : Int) (w : World) : Calls Tryz.prog 21 #[rv p m o n a] w fun e w' => e = .returned (.bool (rollOk p m o n a)) ∧ w' = w.alloc (rbox p m o n a 38) := by
  have S0 := hidIt (fun W => spec_l3Secret m W)
  have S1 := hidIt (fun W => spec_l3Secret o W)
  have S2 := hidIt (fun W => spec_l3Secret n W)
  have T0 := hidIt (fun W => spec_l9Time a W)
  have CP := hidIt (fun W => spec_l1In p 2 3 W)
  unfold rollOk
  generalize secB m = sm at *
  generalize secB o = so at *
  generalize secB n = sn at *
  generalize timB a = ta at *
  generalize inB p 2 3 = ph at *
  go_enter Tryz.func21, Tryz.ntmps21
  go_wp2_with (fail)
  refine (S0.out _).mono ?_
  rintro e w1 ⟨rfl, rfl⟩
  cases sm with
  | false =>
    go_wp2_with (fail)
    go_ret
    exact ⟨by first | rfl | simp [rollB], rfl⟩
  | true =>
    go_wp2_with (fail)
    refine (S1.out _).mono ?_
    rintro e w1 ⟨rfl, rfl⟩
    cases so with
    | false =>
      go_wp2_with (fail)
      go_ret
      exact ⟨by first | rfl | simp [rollB], rfl⟩
    | true =>
      go_wp2_with (fail)
      refine (T0.out _).mono ?_
      rintro e w1 ⟨rfl, rfl⟩
      cases ta with
      | false =>
        go_wp2_with (fail)
        go_ret
        exact ⟨by first | rfl | simp [rollB], rfl⟩
      | true =>
        by_cases h1 : p = 1
        · subst h1
          go_wp2_with (fail)
          go_ret
          exact ⟨by first | rfl | simp [rollB] | (simp [rollB]; done), rfl⟩
        · have h1b : (p == 1) = false := by simpa using h1
          go_wp2_with (fail)
          refine (CP.out _).mono ?_
          rintro e w1 ⟨rfl, rfl⟩
          cases ph with
          | false =>
            go_wp2_with (fail)
            go_ret
            exact ⟨by rw [rollB_other h1]; rfl, rfl⟩
          | true =>
            go_wp2_with (fail)
            refine (S2.out _).mono ?_
            rintro e w1 ⟨rfl, rfl⟩
            go_wp2_with (fail)
            go_ret
            exact ⟨by rw [rollB_other h1]; cases sn <;> rfl, rfl⟩
set_option maxRecDepth 100000 in
set_option maxHeartbeats 4000000 in
theorem toRoll_any (p m o n a : Int) (w : World) : Calls Tryz.prog 26 #[rv p m o n a] w fun e w' => e = .returned (rv p m o n a) ∧ Below w.heap.size w w' := by
  go_enter Tryz.func26, Tryz.ntmps26
  go_wp2
  refine bodyPost_ret (v := rv p m o n a) (by simp [results, Tryz.results26, go_sem]) rfl ⟨rfl, ?_⟩
  exact (((Below.refl w.heap.size w).alloc (Nat.le_refl _) _).alloc (by simp) _).alloc (by simp; omega) _
set_option maxRecDepth 100000 in
set_option maxHeartbeats 4000000 in
theorem eqRoll_same (p m o n a : Int) (w : World) : Calls Tryz.prog 35 #[rv p m o n a, rv p m o n a] w fun e w' => e = .returned (.bool true) ∧ Below w.heap.size w w' := by
  go_enter Tryz.func35, Tryz.ntmps35
  go_wp2
  go_ret
  exact ⟨rfl, ((Below.refl w.heap.size w).alloc (Nat.le_refl _) _).alloc (by simp) _⟩
theorem array5 {α : Type} {cs : Array α} (h : cs.size = 5) : ∃ a b c d e, cs = #[a, b, c, d, e] := by
  obtain ⟨l⟩ := cs
  match l, h with
  | [a, b, c, d, e], _ => exact ⟨a, b, c, d, e, rfl⟩
theorem open_roll {H : Type} {P : Program} {enc : TypeId × Value → H} {w : World} {r : Reach} {b0 base : Nat} {spare : Nat → Bool} {held : Bool} {v : Value} {d : DataW H} {p : List MemPlace} {e : TypeId} {f0 f1 f2 f3 f4 : Field}
    (he : P.underlying e = some (.struct #[f0, f1, f2, f3, f4])) (ce : P.cellsOf e = 5) (o0 : f0.offset = 0) (o1 : f1.offset = 1) (o2 : f2.offset = 2) (o3 : f3.offset = 3) (o4 : f4.offset = 4)
    (c0 : P.cellsOf f0.type = 1) (c1 : P.cellsOf f1.type = 1) (c2 : P.cellsOf f2.type = 1) (c3 : P.cellsOf f3.type = 1) (c4 : P.cellsOf f4.type = 1)
    (t0 : P.underlying f0.type = some (.int .i64)) (t1 : P.underlying f1.type = some (.int .i64)) (t2 : P.underlying f2.type = some (.int .i64)) (t3 : P.underlying f3.type = some (.int .i64)) (t4 : P.underlying f4.type = some (.int .i64))
    (hv : Value.okWide P w r b0 e v) (h : DataW.Trod enc P w base spare held e v d p) : ∃ x0 x1 x2 x3 x4 : Int, v = rv x0 x1 x2 x3 x4 := by
  obtain ⟨cs, rfl, hsz⟩ := okWide_struct he hv
  obtain ⟨v0, v1, v2, v3, v4, rfl⟩ := array5 (hsz.trans ce)
  obtain ⟨fuel, hf⟩ := h
  obtain ⟨xs, k, hk, hxy, _, hxl, hf'⟩ := DataW.trod_struct he hf
  match xs, hxl with
  | [y0, y1, y2, y3, y4], _ =>
    have g0 := hf' 0 f0 rfl
    have g1 := hf' 1 f1 rfl
    have g2 := hf' 2 f2 rfl
    have g3 := hf' 3 f3 rfl
    have g4 := hf' 4 f4 rfl
    simp [o0, o1, o2, o3, o4, c0, c1, c2, c3, c4, Value.cells] at g0 g1 g2 g3 g4
    obtain ⟨q0, e0, _, _⟩ := DataW.trod_int t0 g0
    obtain ⟨q1, e1, _, _⟩ := DataW.trod_int t1 g1
    obtain ⟨q2, e2, _, _⟩ := DataW.trod_int t2 g2
    obtain ⟨q3, e3, _, _⟩ := DataW.trod_int t3 g3
    obtain ⟨q4, e4, _, _⟩ := DataW.trod_int t4 g4
    simp at e0 e1 e2 e3 e4
    subst e0 e1 e2 e3 e4
    exact ⟨q0, q1, q2, q3, q4, rfl⟩
/-- What lies in the five cells of a Roll. -/
structure Bx (w : World) (g : Nat) (p m o n a : Int) : Prop where
  c0 : w.cell? ⟨g, 0, none⟩ = some (.int .i64 p)
  c1 : w.cell? ⟨g, 1, none⟩ = some (.int .i64 m)
  c2 : w.cell? ⟨g, 2, none⟩ = some (.int .i64 o)
  c3 : w.cell? ⟨g, 3, none⟩ = some (.int .i64 n)
  c4 : w.cell? ⟨g, 4, none⟩ = some (.int .i64 a)
theorem cell_block {w : World} {b o : Nat} {v : Value} (h : w.cell? ⟨b, o, none⟩ = some v) : b < w.heap.size := World.block_lt_of_cell? w ⟨b, o, none⟩ h
theorem Bx.kept {w w' : World} {g : Nat} {p m o n a : Int} (h : Bx w g p m o n a) (k : Below w.heap.size w w') : Bx w' g p m o n a :=
  ⟨by rw [k.cell (by simpa using cell_block h.c0)]; exact h.c0, by rw [k.cell (by simpa using cell_block h.c1)]; exact h.c1, by rw [k.cell (by simpa using cell_block h.c2)]; exact h.c2, by rw [k.cell (by simpa using cell_block h.c3)]; exact h.c3, by rw [k.cell (by simpa using cell_block h.c4)]; exact h.c4⟩
theorem Bx.only {w w' : World} {g c : Nat} {p m o n a : Int} (h : Bx w g p m o n a) (k : Only c w w') (hne : g ≠ c) : Bx w' g p m o n a :=
  ⟨by rw [k.cell (p := ⟨g, 0, none⟩) (cell_block h.c0) hne]; exact h.c0, by rw [k.cell (p := ⟨g, 1, none⟩) (cell_block h.c0) hne]; exact h.c1, by rw [k.cell (p := ⟨g, 2, none⟩) (cell_block h.c0) hne]; exact h.c2, by rw [k.cell (p := ⟨g, 3, none⟩) (cell_block h.c0) hne]; exact h.c3, by rw [k.cell (p := ⟨g, 4, none⟩) (cell_block h.c0) hne]; exact h.c4⟩
end Go.Proofs.YtllajhieocploaaGreatDoor.Ro
