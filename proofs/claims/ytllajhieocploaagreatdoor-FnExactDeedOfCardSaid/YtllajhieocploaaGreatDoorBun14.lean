/-
  What the laws do with a Deed: szDeed, toDeed, eqDeed.
  Marks written into a list of Points of the call's own, and looked for again; what stays beside a row that is written.
  A region that draws its order, by an invariant: what holds of the slots that have come up, whichever they are, is handed on by each operation; so each operation is looked at once, in however many orders they may come.
  l15Draw and Drawn of the specification. (Written by wip/mkBuW.py.)
  The program's side of chapter 15: sourceOk, timeOk, bucketOk, bucketPlace, BucketsOk, LeftFor, Drawn. (Written by wip/mkBuX.py.)
-/
import Derived.Test.YtllajhieocploaaGreatDoorBun13
import Derived.Test.YtllajhieocploaaGreatDoorBun12
import Derived.RegionTactic
import Derived.WalkKit
import Derived.Below
import Derived.Test.YtllajhieocploaaGreatDoorBun8
import Derived.Test.YtllajhieocploaaGreatDoorBun7
import Derived.Test.YtllajhieocploaaGreatDoorBoxM
import Derived.Test.YtllajhieocploaaGreatDoorBun1
import Derived.WalkMore
namespace Go.Proofs.YtllajhieocploaaGreatDoor.Dd
open Go.ChangeShapes Go.WideShapes Go.ChangeAt Go.RowKit
open Cv Cu Sg
open Go.Proofs.YtllajhieocploaaGreatDoor.Pt (Ln lat)
open Go.Proofs.YtllajhieocploaaGreatDoor.Pt (eqPointS_any)
open Go.Proofs.YtllajhieocploaaGreatDoor.Bo (Box Box.new Box.newAt Box.kept Box.alloc Box.put Box.other Box.c Box.drew)
set_option linter.unusedVariables false
set_option maxRecDepth 100000 in
set_option maxHeartbeats 4000000 in
theorem eqDeed_same (z : ByteArray) (a b : Option Addr) (ca cb : Nat) (L : List Ln) (k1 k2 u r1 r2 t : Int) (w : World) (ha : Pt.Rd w a L) (hb : Pt.Rd w b L) (hl : L.length ≤ 9223372036854775806) :
    Calls Tryz.prog 12 #[dv z (.slice a L.length ca) k1 k2 u r1 r2 t, dv z (.slice b L.length cb) k1 k2 u r1 r2 t] w fun e w' => e = .returned (.bool true) ∧ Below w.heap.size w w' := by
  have CE := hidIt (fun W h h' => eqPointS_any a b ca cb L W h h' hl)
  have CS := hidIt (fun W => eqSeal_same k1 k2 u r1 r2 t W)
  have HA := hidIt ha
  have HC := hidIt hb
  clear ha hb
  generalize L.length = n at *
  have BA : Hid (Box ((w.alloc (.cells (dc z (.slice a n ca) k1 k2 u r1 r2 t) 54)).alloc (.cells (dc z (.slice b n cb) k1 k2 u r1 r2 t) 54)) w.heap.size (dc z (.slice a n ca) k1 k2 u r1 r2 t)) := hidIt ((Box.new w _ _).alloc _)
  have BB : Hid (Box ((w.alloc (.cells (dc z (.slice a n ca) k1 k2 u r1 r2 t) 54)).alloc (.cells (dc z (.slice b n cb) k1 k2 u r1 r2 t) 54)) (w.heap.size + 1) (dc z (.slice b n cb) k1 k2 u r1 r2 t)) := hidIt (Box.newAt (by simp))
  have HB : Hid (Below w.heap.size w ((w.alloc (.cells (dc z (.slice a n ca) k1 k2 u r1 r2 t) 54)).alloc (.cells (dc z (.slice b n cb) k1 k2 u r1 r2 t) 54))) := hidIt (((Below.refl w.heap.size w).alloc (Nat.le_refl _) _).alloc (by simp) _)
  go_enter Tryz.func12, Tryz.ntmps12
  go_wp2_with (fail)
  refine (CE.out _ (HA.out.kept HB.out) (HC.out.kept HB.out)).mono ?_
  rintro e w1 ⟨rfl, k⟩
  replace BA := hidIt (BA.out.kept k)
  replace BB := hidIt (BB.out.kept k)
  replace HB := hidIt (HB.out.trans (k.mono HB.out.size))
  clear k CE HA HC
  generalize w.heap.size + 1 = n1 at *
  have a2 := BA.out.c 2 (v := .int .i64 k1) rfl
  have b2 := BB.out.c 2 (v := .int .i64 k1) rfl
  have a3 := BA.out.c 3 (v := .int .i64 k2) rfl
  have b3 := BB.out.c 3 (v := .int .i64 k2) rfl
  have a4 := BA.out.c 4 (v := .int .i64 u) rfl
  have b4 := BB.out.c 4 (v := .int .i64 u) rfl
  have a5 := BA.out.c 5 (v := .int .i64 r1) rfl
  have b5 := BB.out.c 5 (v := .int .i64 r1) rfl
  have a6 := BA.out.c 6 (v := .int .i64 r2) rfl
  have b6 := BB.out.c 6 (v := .int .i64 r2) rfl
  have a7 := BA.out.c 7 (v := .int .i64 t) rfl
  have b7 := BB.out.c 7 (v := .int .i64 t) rfl
  go_wp2_with (fail)
  refine (CS.out _).mono ?_
  rintro e w2 ⟨rfl, k⟩
  replace HB := hidIt (HB.out.trans (k.mono HB.out.size))
  clear k a2 a3 a4 a5 a6 a7 b2 b3 b4 b5 b6 b7 BA BB
  go_wp2_with (fail)
  go_ret
  exact ⟨rfl, HB.out⟩
end Go.Proofs.YtllajhieocploaaGreatDoor.Dd
namespace Go.Proofs.YtllajhieocploaaGreatDoor.Pt
open Go.ChangeShapes Go.WideShapes Go.ChangeAt Go.RowKit
set_option linter.unusedVariables false
theorem lat_mapN (n : Nat) (f : Nat → Ln) (i : Nat) (hi : i < n) : lat ((List.range n).map f) i = f i := by
  unfold lat
  rw [List.getD_eq_getElem?_getD, List.getElem?_map, List.getElem?_range hi]
  rfl
/-- The marks of n Points from number k on. -/
def markP (k n : Nat) : List Ln := (List.range n).map fun j => (((k + 2 * j : Nat) : Int), ((k + 2 * j + 1 : Nat) : Int))
theorem markP_length (k n : Nat) : (markP k n).length = n := by simp [markP]
theorem lat_markP (k n j : Nat) (h : j < n) : lat (markP k n) j = (((k + 2 * j : Nat) : Int), ((k + 2 * j + 1 : Nat) : Int)) := by
  unfold markP
  rw [lat_mapN _ _ _ h]
/-- The block that a slice owns; of none, one that is not there. -/
def ob (w : World) (v : Value) : Nat := v.ownBlock.getD w.heap.size
theorem Rd.none_nil {w : World} {L : List Ln} (h : Rd w none L) : L = [] := by
  cases L with
  | nil => rfl
  | cons x r => obtain ⟨b, off, e, _⟩ := h.cell 0 (by simp); cases e
theorem Own.lo {w w' : World} {b b' : Nat} {u v : Value} {M L : List Ln} (hu : Own w b u M) (hv : Own w b' v L) (Y : Only (ob w v) w w') (hlt : ∀ g, u.ownBlock = some g → g < b') : Own w' b u M := by
  refine hu.only Y (.inr fun g hg => ?_)
  have h1 := hlt g hg
  have h2 := (World.ownsRow.lt hu g hg).2
  unfold ob
  cases hvb : v.ownBlock with
  | none => simp; omega
  | some x => have := (World.ownsRow.lt hv x hvb).1; simp; omega
theorem Own.blk {w : World} {b : Nat} {v : Value} {L : List Ln} (hv : Own w b v L) {X : Nat} (hX : w.heap.size ≤ X) : ∀ g, v.ownBlock = some g → g < X := fun g hg => by
  have := (World.ownsRow.lt hv g hg).2; omega
theorem ob_below {W w w' : World} {b B : Nat} {v : Value} {L : List Ln} (k : Below B W w) (hv : Own w b v L) (Y : Only (ob w v) w w') (hb : B ≤ b) (hs : B ≤ w.heap.size) : Below B W w' := by
  refine k.trans (Y.below ?_ hs)
  unfold ob
  cases hvb : v.ownBlock with
  | none => simpa using hs
  | some x => have := (World.ownsRow.lt hv x hvb).1; simp; omega
set_option maxRecDepth 100000 in
set_option maxHeartbeats 4000000 in
theorem markPointS_any (base : Nat) (v : Value) (L : List Ln) (k : Nat) (w : World) (h : Own w base v L) (h1 : 1 ≤ k) (h2 : k + 2 * L.length ≤ 1099511627776) :
    Calls Tryz.prog 49 #[v, .int .i64 k] w fun e w' => e = .returned (.int .i64 ((k + 2 * L.length : Nat) : Int)) ∧ Own w' base v (markP k L.length) ∧ Only (ob w v) w w' := by
  obtain ⟨a, cap, rfl, hcap, hcm, hR, hna, hsome⟩ := h.form
  cases a with
  | none =>
    have e := hR.none_nil
    subst e
    have e := hna rfl
    subst e
    clear hsome hna
    go_enter Tryz.func49, Tryz.ntmps49
    go_wp2_with (fail)
    refine wp_loop_rounds 1 ?_
    rw [rounds_succ]
    go_wp2_with (fail)
    go_ret
    exact ⟨by simp, h, Only.refl _ _⟩
  | some x =>
    obtain ⟨g, rfl, hbg, hgl⟩ := hsome x rfl
    have eo : ob w (.slice (some ⟨g, 0, none⟩) L.length cap) = g := rfl
    rw [eo]
    have HO := hidIt h
    generalize hn : L.length = n at *
    have HN := hidIt hn
    clear h hR hna hsome hn eo hcm
    go_enter Tryz.func49, Tryz.ntmps49
    go_wp2_with (fail)
    go_loopw [1, 5] (fun z y wx => ∃ (i : Nat) (M : List Ln), y = .int .i64 i ∧ z = .int .i64 ((k + 2 * i : Nat) : Int) ∧ i ≤ n ∧ M.length = n ∧ Hid (∀ j, j < i → lat M j = (((k + 2 * j : Nat) : Int), ((k + 2 * j + 1 : Nat) : Int))) ∧ Own wx base (.slice (some ⟨g, 0, none⟩) n cap) M ∧ Only g w wx) (fun _ y _ => (n - intOf y).toNat)
    case atStart => exact ⟨0, L, rfl, rfl, by omega, HN.out, hidIt (fun j hj => by omega), HO.out, Only.refl _ _⟩
    case round =>
      obtain ⟨i, M, rfl, rfl, hi, hM, hE, hO, hY⟩ := hrel
      have HM := hidIt hM
      have HO1 := hidIt hO
      have HY1 := hidIt hY
      clear hM hO hY
      by_cases hin : i < n
      · have hin' : (i : Int) < (n : Int) := by omega
        have hiM : i < M.length := by rw [HM.out]; exact hin
        generalize hk : k + 2 * i = q
        have HK := hidIt hk
        clear hk
        have q1 : q + 2 ≤ 1099511627776 := by have := HK.out; omega
        obtain ⟨c0, c1, f0, f1⟩ := HO1.out.at hiM
        have HL := hidIt (HO1.out.line hiM ((q : Nat) : Int) ((q + 1 : Nat) : Int))
        have HMi := hidIt hiM
        clear HO1 hiM
        have q2 : ((q + 1 : Nat) : Int) = (q : Int) + 1 := by omega
        rw [q2] at HL
        clear q2
        go_wp2_with (fail)
        refine ⟨⟨i + 1, _, by simp, ?_, by omega, by rw [List.length_set]; exact HM.out, hidIt (fun j hj => ?_), HL.out, (HY1.out.setCell _ _).setCell _ _⟩, by simp [intOf]; omega⟩
        · have := HK.out
          congr 1
          omega
        · rw [lat_set HMi.out]
          split
          · next e =>
            subst e
            rw [HK.out]
            simp
          · exact hE.out j (by omega)
      · have hin' : ¬ (i : Int) < (n : Int) := by omega
        have ei : i = n := by omega
        subst ei
        have e : M = markP k i := ext_lat (by rw [HM.out, markP_length]) (fun j hj => by rw [HM.out] at hj; rw [hE.out j hj, lat_markP _ _ _ hj])
        subst e
        generalize hk : k + 2 * i = q
        go_wp2_with (fail)
        go_ret
        exact ⟨rfl, HO1.out, HY1.out⟩
set_option maxRecDepth 100000 in
set_option maxHeartbeats 4000000 in
theorem heldPointS_any (a : Option Addr) (cap n k : Nat) (w : World) (h : Rd w a (markP k n)) (h1 : 1 ≤ k) (h2 : k + 2 * n ≤ 1099511627776) :
    Calls Tryz.prog 50 #[.slice a n cap, .int .i64 k] w fun e w' => e = .returned (.int .i64 ((k + 2 * n : Nat) : Int)) ∧ Below w.heap.size w w' := by
  have HR := hidIt h
  clear h
  go_enter Tryz.func50, Tryz.ntmps50
  go_wp2_with (fail)
  go_loopw [1, 5] (fun z y wx => ∃ i : Nat, y = .int .i64 i ∧ z = .int .i64 ((k + 2 * i : Nat) : Int) ∧ i ≤ n ∧ Below w.heap.size w wx) (fun _ y _ => (n - intOf y).toNat)
  case atStart => exact ⟨0, rfl, rfl, by omega, Below.refl _ _⟩
  case round =>
    obtain ⟨i, rfl, rfl, hi, hB⟩ := hrel
    have RA := hidIt (HR.out.kept hB)
    have HB := hidIt hB
    clear hB
    by_cases hin : i < n
    · have hin' : (i : Int) < (n : Int) := by omega
      obtain ⟨b, off, rfl, c0, c1⟩ := RA.out.cell i (by rw [markP_length]; exact hin)
      rw [lat_markP _ _ _ hin] at c0 c1
      simp only at c0 c1
      have q1 : k + 2 * i + 2 ≤ 1099511627776 := by omega
      have q3 : Hid (k + 2 * (i + 1) = k + 2 * i + 2) := hidIt (by omega)
      generalize k + 2 * i = q at c0 c1 q1 q3
      have q2 : ((q + 1 : Nat) : Int) = (q : Int) + 1 := by omega
      rw [q2] at c1
      clear q2
      clear HR RA
      have hne : ((q : Int) + 1 != (q : Int) + 1) = false := by simp
      have hn0 : ((q : Int) != (q : Int)) = false := by simp
      go_wp2_with (fail)
      refine ⟨⟨i + 1, by simp, ?_, by omega, HB.out⟩, by simp [intOf]; omega⟩
      rw [q3.out]
      congr 1
    · have hin' : ¬ (i : Int) < (n : Int) := by omega
      have ei : i = n := by omega
      subst ei
      generalize hk : k + 2 * i = q
      go_wp2_with (fail)
      go_ret
      exact ⟨rfl, HB.out⟩
end Go.Proofs.YtllajhieocploaaGreatDoor.Pt
namespace Go.Proofs.YtllajhieocploaaGreatDoor.Rg
open Go.RowKit
set_option linter.unusedVariables false
/-- Number i has come up. -/
def upd (L : Nat → Bool) (i : Nat) : Nat → Bool := fun j => if j = i then true else L j
/-- Where it binds in any order, each waits for elder ones alone. -/
def depB (ops : Array Oper) : Bool := (List.range ops.size).all fun i => ((ops[i]?).map fun o => o.after.all fun e => !Region.binds .any e || decide (e.on < i)).getD true
theorem dep_of {ops : Array Oper} (h : depB ops = true) {i : Nat} {o : Oper} (ho : ops[i]? = some o) {e : Edge} (he : e ∈ o.after) (hb : Region.binds .any e = true) : e.on < i := by
  unfold depB at h
  rw [List.all_eq_true] at h
  have h1 := h i (List.mem_range.2 (Array.getElem?_eq_some_iff.1 ho).1)
  rw [ho] at h1
  simp only [Option.map_some, Option.getD_some] at h1
  have h2 := Array.all_eq_true_iff_forall_mem.1 h1 e he
  rw [hb] at h2
  simpa using h2
variable {P : Program} {ops : Array Oper} {Q : Exit → Act → World → Prop}
theorem getD_in {l : Array Bool} {i : Nat} (h : i < l.size) (d d' : Bool) : l.getD i d = l.getD i d' := by simp [Array.getD, h]
theorem getD_out {l : Array Bool} {i : Nat} (h : ¬ i < l.size) (d : Bool) : l.getD i d = d := by simp [Array.getD, h]
theorem all_of_ready (hd : depB ops = true) {l : Array Bool} (hz : l.size = ops.size) (hr : Region.ready .any ops l = []) : ∀ i, l.getD i true = true := by
  intro i
  induction i using Nat.strongRecOn with
  | ind i ih =>
    by_cases hi : i < l.size
    · cases hc : l.getD i true with
      | true => rfl
      | false =>
        exfalso
        have ho : ops[i]? = some ops[i] := Array.getElem?_eq_getElem (by omega)
        have : i ∈ Region.ready .any ops l := mem_ready.2 ⟨hc, ops[i], ho, fun e he hb => by
          have := dep_of hd ho he hb
          rw [getD_in (by omega) false true]
          exact ih e.on this⟩
        rw [hr] at this
        cases this
    · exact getD_out hi true
theorem count_upd {l : Array Bool} {i n : Nat} (hi : i < l.size) (hf : l.getD i true = false) (hc : l.toList.count false ≤ n + 1) : (l.setIfInBounds i true).toList.count false ≤ n := by
  have e : l[i] = false := by simpa [Array.getD, hi] using hf
  have h1 : 0 < l.toList.count false := List.count_pos_iff.2 (by rw [← e]; simp)
  rw [Array.toList_setIfInBounds, List.count_set (by simpa using hi)]
  simp [e]
  simp at hc h1
  omega
theorem wpAny_inv (hd : depB ops = true) (I : (Nat → Bool) → Act → World → Prop)
    (hs : ∀ L a w i, i < ops.size → I L a w → L i = false → (∀ o, ops[i]? = some o → ∀ e ∈ o.after, Region.binds .any e = true → L e.on = true) → wpOp P ops Q i (fun a' w' => I (upd L i) a' w') a w)
    (hq : ∀ L a w, I L a w → (∀ i, L i = true) → Q .normal a w) :
    ∀ (fuel : Nat) (l : Array Bool) (a : Act) (w : World), l.size = ops.size → l.toList.count false ≤ fuel → I (fun i => l.getD i true) a w → wpAny P .any ops Q fuel l a w := by
  intro fuel
  induction fuel with
  | zero =>
    intro l a w hz hc hI
    have all : ∀ i, l.getD i true = true := by
      intro i
      by_cases hi : i < l.size
      · cases e : l.getD i true with
        | true => rfl
        | false =>
          exfalso
          have e' : l[i] = false := by simpa [Array.getD, hi] using e
          have : 0 < l.toList.count false := List.count_pos_iff.2 (by rw [← e']; simp)
          omega
      · exact getD_out hi true
    refine ⟨?_, hq _ _ _ hI all⟩
    rw [List.eq_nil_iff_forall_not_mem]
    intro i hi
    have := (mem_ready.1 hi).1
    rw [all i] at this
    cases this
  | succ fuel ih =>
    intro l a w hz hc hI
    refine ⟨fun hr => hq _ _ _ hI (all_of_ready hd hz hr), fun i hi => ?_⟩
    obtain ⟨h1, o, ho, h2⟩ := mem_ready.1 hi
    have hlt := (Array.getElem?_eq_some_iff.1 ho).1
    refine wpOp_mono (fun a' w' h => ih _ a' w' (by simpa using hz) (count_upd (by omega) h1 hc) ?_) (hs _ a w i hlt hI h1 (fun o' ho' e he hb => ?_))
    · have e : (fun j => (l.setIfInBounds i true).getD j true) = upd (fun j => l.getD j true) i := by
        funext j
        unfold upd
        by_cases e : j = i
        · subst e
          have hj : j < l.size := by omega
          simp [Array.getD, hj]
        · rw [if_neg e]
          by_cases hj : j < l.size
          · simp [Array.getD, hj, Ne.symm e]
          · simp [Array.getD, hj]
      rw [e]
      exact h
    · rw [ho] at ho'
      cases ho'
      have hon := dep_of hd ho he hb
      have := h2 e he hb
      rw [getD_in (by omega) false true] at this
      exact this
/-- What operation number i of a list waits for. -/
def waits (l : List Oper) (i : Nat) : List Nat := ((l[i]?).map fun o => (o.after.toList.filter (Region.binds .any)).map (·.on)).getD []
theorem wp_region_inv {id : Nat} {a : Act} {w : World} {l : List Oper} (hm : P.follows .mixedOrders = true) (hd : depB l.toArray = true) (I : (Nat → Bool) → Act → World → Prop)
    (h0 : I (fun i => decide (l.length ≤ i)) a w.drew)
    (hs : ∀ L a w i, i < l.length → I L a w → L i = false → (∀ d, (waits l i).contains d = true → L d = true) → wpOp P l.toArray Q i (fun a' w' => I (upd L i) a' w') a w)
    (hq : ∀ L a w, I L a w → (∀ i, L i = true) → Q .normal a w) : (Code.region id l.toArray true).wp P Q a w := by
  refine wp_region_any hm (wpAny_inv hd I (fun L a w i hi hI hL hdep => hs L a w i (by simpa using hi) hI hL (fun d hd' => ?_)) hq _ _ _ _ (by simp) (by simp) ?_)
  · unfold waits at hd'
    cases ho : l[i]? with
    | none => rw [ho] at hd'; simp at hd'
    | some o =>
      rw [ho] at hd'
      simp only [Option.map_some, Option.getD_some] at hd'
      have hm := List.contains_iff_mem.1 hd'
      obtain ⟨e, he, rfl⟩ := List.mem_map.1 hm
      obtain ⟨h1, h2⟩ := List.mem_filter.1 he
      exact hdep o (by simpa using ho) e (by simpa using h1) h2
  · have e : (fun i => (Array.replicate l.toArray.size false).getD i true) = fun i => decide (l.length ≤ i) := by
      funext i
      by_cases h : i < l.length
      · simp [Array.getD, h]
      · simp [Array.getD, h]; omega
    rw [e]
    exact h0
/-- An operation, read off the region's own list. -/
theorem op_at {l : List Oper} {i : Nat} {o : Oper} {K : Act → World → Prop} {a : Act} {w : World} (ho : l[i]? = some o)
    (h : ∀ K' : Act → World → Prop, (∀ a w, K a w → K' a w) → if Region.wanted o (yielded l.toArray a.tmps) = true then Oper.wp P o a w K' Q else K' (a.put o.dst undef) w) : wpOp P l.toArray Q i K a w :=
  wpOp_step (by simpa using ho) h
end Go.Proofs.YtllajhieocploaaGreatDoor.Rg
namespace Go.Proofs.YtllajhieocploaaGreatDoor.Bu
open Go.ChangeShapes Go.WideShapes Go.ChangeAt Go.RowKit
open Go.Proofs.YtllajhieocploaaGreatDoor.Rg (upd waits wp_region_inv op_at)
set_option linter.unusedVariables false
theorem box_cells {w : World} {bl : Nat} {b : Rw} (x : Bo.Box w bl (rc b)) : ∀ j u, (rcells [b])[j]? = some u → w.cell? ((⟨bl, 0, none⟩ : Addr).add j) = some u := by
  intro j u hj
  match j, hj with
  | 0, hj => simp [rcells] at hj; subst hj; rw [Go.WideShapes.add_plain]; exact x.c 0 rfl
  | 1, hj => simp [rcells] at hj; subst hj; rw [Go.WideShapes.add_plain]; exact x.c 1 rfl
  | 2, hj => simp [rcells] at hj; subst hj; rw [Go.WideShapes.add_plain]; exact x.c 2 rfl
  | j + 3, hj => simp [rcells] at hj
end Go.Proofs.YtllajhieocploaaGreatDoor.Bu
namespace Go.Proofs.YtllajhieocploaaGreatDoor.Bu
open Go.ChangeShapes Go.WideShapes Go.ChangeAt Go.RowKit
open Go.Proofs.YtllajhieocploaaGreatDoor.Rc (BelowBy BelowBy.one wp_region_below calls_below calls_same)
set_option linter.unusedVariables false
set_option maxHeartbeats 2000000 in
theorem impl_sourceOk (n : Int) (w : World) : Calls Tryz.prog 97 #[.int .i64 n] w fun e w' => e = .returned (.bool (inB n 0 99)) ∧ w' = w := by
  unfold inB
  by_cases h : (0 : Int) ≤ n
  · have h' : decide ((0 : Int) ≤ n) = true := decide_eq_true h
    rw [h', Bool.true_and]
    go_enter Tryz.func97, Tryz.ntmps97
    go_wp2
    go_ret
    exact ⟨rfl, rfl⟩
  · have h' : decide ((0 : Int) ≤ n) = false := decide_eq_false h
    rw [h', Bool.false_and]
    go_enter Tryz.func97, Tryz.ntmps97
    go_wp2
    go_ret
    exact ⟨rfl, rfl⟩
set_option maxHeartbeats 2000000 in
theorem impl_timeOk (n : Int) (w : World) : Calls Tryz.prog 40 #[.int .i64 n] w fun e w' => e = .returned (.bool (inB n 0 1000000)) ∧ w' = w := by
  unfold inB
  by_cases h : (0 : Int) ≤ n
  · have h' : decide ((0 : Int) ≤ n) = true := decide_eq_true h
    rw [h', Bool.true_and]
    go_enter Tryz.func40, Tryz.ntmps40
    go_wp2
    go_ret
    exact ⟨rfl, rfl⟩
  · have h' : decide ((0 : Int) ≤ n) = false := decide_eq_false h
    rw [h', Bool.false_and]
    go_enter Tryz.func40, Tryz.ntmps40
    go_wp2
    go_ret
    exact ⟨rfl, rfl⟩
set_option maxRecDepth 100000 in
set_option maxHeartbeats 4000000 in
theorem impl_bucketOk (x : Rw) (w : World) : Calls Tryz.prog 66 #[rv x] w fun e w' => e = .returned (.bool (okX x)) ∧ Below w.heap.size w w' := by
  obtain ⟨x0, x1, x2⟩ := x
  have C1 := hidIt (fun n W => impl_sourceOk n W)
  have C2 := hidIt (fun n W => impl_timeOk n W)
  have HB := hidIt ((Below.refl w.heap.size w).alloc (Nat.le_refl _) (.cells #[.int .i64 x0, .int .i64 x1, .int .i64 x2] 103))
  have BX := hidIt (Bo.Box.new w #[.int .i64 x0, .int .i64 x1, .int .i64 x2] 103)
  have hr : okX (x0, x1, x2) = (inB x0 0 99 && ((decide (0 ≤ x1) && decide (x1 ≤ 5)) && inB x2 0 1000000)) := rfl
  rw [hr]
  clear hr
  have c0 := BX.out.c 0 rfl
  have c1 := BX.out.c 1 rfl
  have c2 := BX.out.c 2 rfl
  cases hk : inB x0 0 99 with
  | false =>
    go_enter Tryz.func66, Tryz.ntmps66
    go_wp2_with (first | (go_at_call 97; refine (C1.out _ _).mono ?_; rintro e w' ⟨rfl, ew⟩; rw [ew, hk]; clear ew w') | fail)
    go_ret
    exact ⟨rfl, HB.out⟩
  | true =>
    by_cases h1 : (0 : Int) ≤ x1
    · by_cases h2 : x1 ≤ 5
      · have e1 : decide ((0 : Int) ≤ x1) = true := decide_eq_true h1
        have e2 : decide (x1 ≤ 5) = true := decide_eq_true h2
        rw [e1, e2]
        generalize hq : inB x2 0 1000000 = k3
        go_enter Tryz.func66, Tryz.ntmps66
        go_wp2_with (first | (go_at_call 97; refine (C1.out _ _).mono ?_; rintro e w' ⟨rfl, ew⟩; rw [ew, hk]; clear ew w') | (go_at_call 40; refine (C2.out _ _).mono ?_; rintro e w' ⟨rfl, ew⟩; rw [ew, hq]; clear ew w') | fail)
        go_ret
        exact ⟨rfl, HB.out⟩
      · have e1 : decide ((0 : Int) ≤ x1) = true := decide_eq_true h1
        have e2 : decide (x1 ≤ 5) = false := decide_eq_false h2
        rw [e1, e2]
        go_enter Tryz.func66, Tryz.ntmps66
        go_wp2_with (first | (go_at_call 97; refine (C1.out _ _).mono ?_; rintro e w' ⟨rfl, ew⟩; rw [ew, hk]; clear ew w') | fail)
        go_ret
        exact ⟨rfl, HB.out⟩
    · have e1 : decide ((0 : Int) ≤ x1) = false := decide_eq_false h1
      rw [e1]
      go_enter Tryz.func66, Tryz.ntmps66
      go_wp2_with (first | (go_at_call 97; refine (C1.out _ _).mono ?_; rintro e w' ⟨rfl, ew⟩; rw [ew, hk]; clear ew w') | fail)
      go_ret
      exact ⟨rfl, HB.out⟩
/-- Where a Source stands, or would. -/
def plcR (L : List Rw) (s : Int) : Nat × Bool := match bat L s with
  | some j => (j, true)
  | none => (plc L s, false)
set_option maxRecDepth 100000 in
set_option maxHeartbeats 4000000 in
theorem impl_BucketsOk (a : Option Addr) (cap : Nat) (L : List Rw) (w : World) (h : Rd w a L) (hl : L.length ≤ 9223372036854775807) :
    Calls Tryz.prog 31 #[.slice a L.length cap] w fun e w' => e = .returned (.bool (okB L)) ∧ Below w.heap.size w w' := by
  have N1 : Hid (¬ L.length ≤ 20 → okB L = false) := hidIt okB_no1
  have N2 : Hid (∀ i, i < L.length → okX (rat L i) = false → okB L = false) := hidIt (fun i hi h => okB_no2 hi h)
  have N3 : Hid (∀ i, i + 1 < L.length → ¬ sat L i < sat L (i + 1) → okB L = false) := hidIt (fun i hi h => okB_no3 hi h)
  have N4 : Hid (L.length ≤ 20 → (∀ i, i < L.length → okX (rat L i) = true) → (∀ i, i + 1 < L.length → sat L i < sat L (i + 1)) → okB L = true) := hidIt okB_yes
  generalize okB L = r at N1 N2 N3 N4 ⊢
  have HR := hidIt h
  clear h
  generalize hn : L.length = m at *
  have HN := hidIt hn
  clear hn
  by_cases h80 : m ≤ 20
  · have h80' : ¬ (20 : Int) < (m : Int) := by omega
    go_enter Tryz.func31, Tryz.ntmps31
    go_wp2_with (fail)
    go_loopw [10] (fun y wx => ∃ i : Nat, y = .int .i64 i ∧ i ≤ m ∧ Hid (∀ j, j < i → okX (rat L j) = true) ∧ Hid (∀ j, j + 1 < i → sat L j < sat L (j + 1)) ∧ Hid (Below w.heap.size w wx)) (fun y _ => (m - intOf y).toNat)
    case atStart => exact ⟨0, rfl, by omega, hidIt (fun j hj => by omega), hidIt (fun j hj => by omega), hidIt (Below.refl _ _)⟩
    case round =>
      obtain ⟨i, rfl, hi, HO, HK, HB⟩ := hrel
      by_cases hin : i < m
      · have hin' : (i : Int) < (m : Int) := by omega
        have HRx := hidIt (HR.out.kept HB.out)
        obtain ⟨b, off, ea, c0, c1, c2⟩ := HRx.out.all (i := i) (by rw [HN.out]; exact hin)
        subst ea
        have CB := hidIt (fun W => impl_bucketOk (rat L i) W)
        obtain ⟨ok, hok⟩ : ∃ ok, okX (rat L i) = ok := ⟨_, rfl⟩
        have HOK := hidIt hok
        rw [hok] at CB
        clear hok
        have hkey : Hid (sat L i = (rat L i).1) := hidIt rfl
        generalize rat L i = x at c0 c1 c2 CB hkey
        obtain ⟨x0, x1, x2⟩ := x
        simp only at c0 c1 c2 CB hkey
        have BX := hidIt (Bo.Box.new wr #[.int .i64 x0, .int .i64 x1, .int .i64 x2] 103)
        have HBz := hidIt (HB.out.alloc HB.out.size (.cells #[.int .i64 x0, .int .i64 x1, .int .i64 x2] 103))
        have HRz := hidIt (HRx.out.alloc (.cells #[.int .i64 x0, .int .i64 x1, .int .i64 x2] 103))
        cases ok with
        | false =>
          have er := N2.out i hin HOK.out
          subst er
          go_wp2_with (fail)
          generalize wr.alloc (.cells #[.int .i64 x0, .int .i64 x1, .int .i64 x2] 103) = wz at BX HBz HRz ⊢
          haveI := BelowBy.one wz
          have g0 := fun p : BelowBy wz => p.cell (BX.out.c 0 rfl)
          have g1 := fun p : BelowBy wz => p.cell (BX.out.c 1 rfl)
          have g2 := fun p : BelowBy wz => p.cell (BX.out.c 2 rfl)
          refine wp_region_below (by kernel_rfl) (by kernel_rfl) ?_
          repeat (go_big_quiet_step (first | (go_at_call 66; refine calls_below (CB.out _))))
          refine wpQuiet_nil ?_
          intro _ hw'
          obtain ⟨pq, rfl⟩ := hw'
          have HB1 := hidIt (HBz.out.trans (pq.h.mono HBz.out.size))
          generalize pq.world = w2 at HB1 ⊢
          clear g0 g1 g2
          go_wp2_with (fail)
          go_ret
          exact ⟨rfl, HB1.out⟩
        | true =>
          have HO' : Hid (∀ j, j < i + 1 → okX (rat L j) = true) := hidIt (fun j hj => by
            rcases Nat.lt_succ_iff_lt_or_eq.1 hj with h | h
            · exact HO.out j h
            · subst h; exact HOK.out)
          rcases Nat.eq_zero_or_pos i with hz | hp
          · subst hz
            simp only [Nat.zero_mul, Nat.add_zero] at c0 c1 c2
            go_wp2_with (fail)
            generalize wr.alloc (.cells #[.int .i64 x0, .int .i64 x1, .int .i64 x2] 103) = wz at BX HBz HRz ⊢
            haveI := BelowBy.one wz
            have g0 := fun p : BelowBy wz => p.cell (BX.out.c 0 rfl)
            have g1 := fun p : BelowBy wz => p.cell (BX.out.c 1 rfl)
            have g2 := fun p : BelowBy wz => p.cell (BX.out.c 2 rfl)
            refine wp_region_below (by kernel_rfl) (by kernel_rfl) ?_
            repeat (go_big_quiet_step (first | (go_at_call 66; refine calls_below (CB.out _))))
            refine wpQuiet_nil ?_
            intro _ hw'
            obtain ⟨pq, rfl⟩ := hw'
            have HB1 := hidIt (HBz.out.trans (pq.h.mono HBz.out.size))
            generalize pq.world = w2 at HB1 ⊢
            clear g0 g1 g2
            go_wp2_with (fail)
            exact ⟨⟨1, by simp, by omega, HO', hidIt (fun j hj => by omega), HB1⟩, by simp [intOf]; omega⟩
          · obtain ⟨j, rfl⟩ : ∃ j, i = j + 1 := ⟨i - 1, by omega⟩
            have hpos : (0 : Int) < ((j : Int) + 1) := by omega
            have hj8 : (j : Int) ≤ 20 := by omega
            have hj0 : (0 : Int) ≤ (j : Int) := by omega
            obtain ⟨pk, epk⟩ : ∃ pk, (rat L j).1 = pk := ⟨_, rfl⟩
            have hkj : Hid (sat L j = pk) := hidIt epk
            have EPK := hidIt epk
            clear epk
            go_wp2_with (fail)
            generalize wr.alloc (.cells #[.int .i64 x0, .int .i64 x1, .int .i64 x2] 103) = wz at BX HBz HRz ⊢
            haveI := BelowBy.one wz
            have g0 := fun p : BelowBy wz => p.cell (BX.out.c 0 rfl)
            have g1 := fun p : BelowBy wz => p.cell (BX.out.c 1 rfl)
            have g2 := fun p : BelowBy wz => p.cell (BX.out.c 2 rfl)
            obtain ⟨b', off', ea2, q0, _⟩ := HRz.out.all (i := j) (by rw [HN.out]; omega)
            cases ea2
            rw [EPK.out] at q0
            have k0 := fun p : BelowBy wz => p.cell q0
            clear q0
            by_cases hlt : pk < x0
            · have hd : decide (x0 ≤ pk) = false := decide_eq_false (by omega)
              have HK' : Hid (∀ q, q + 1 < j + 1 + 1 → sat L q < sat L (q + 1)) := hidIt (fun q hq => by
                rcases Nat.lt_succ_iff_lt_or_eq.1 (show q + 1 < j + 1 + 1 from hq) with h | h
                · exact HK.out q h
                · have : q = j := by omega
                  subst this
                  rw [hkj.out, hkey.out]
                  exact hlt)
              clear hlt
              refine wp_region_below (by kernel_rfl) (by kernel_rfl) ?_
              repeat (go_big_quiet_step (first | (go_at_call 66; refine calls_below (CB.out _))))
              refine wpQuiet_nil ?_
              intro _ hw'
              obtain ⟨pq, rfl⟩ := hw'
              have HB1 := hidIt (HBz.out.trans (pq.h.mono HBz.out.size))
              generalize pq.world = w2 at HB1 ⊢
              clear g0 g1 g2 k0
              go_wp2_with (fail)
              exact ⟨⟨j + 1 + 1, by simp, by omega, HO', HK', HB1⟩, by simp [intOf]; omega⟩
            · have er := N3.out j (by omega) (by rw [hkj.out, hkey.out]; omega)
              have hd : decide (x0 ≤ pk) = true := decide_eq_true (by omega)
              subst er
              clear hlt
              refine wp_region_below (by kernel_rfl) (by kernel_rfl) ?_
              repeat (go_big_quiet_step (first | (go_at_call 66; refine calls_below (CB.out _))))
              refine wpQuiet_nil ?_
              intro _ hw'
              obtain ⟨pq, rfl⟩ := hw'
              have HB1 := hidIt (HBz.out.trans (pq.h.mono HBz.out.size))
              generalize pq.world = w2 at HB1 ⊢
              clear g0 g1 g2 k0
              go_wp2_with (fail)
              go_ret
              exact ⟨rfl, HB1.out⟩
      · have hin' : ¬ (i : Int) < (m : Int) := by omega
        have HI : Hid (i = m) := hidIt (by omega)
        have er := N4.out h80 (fun j hj => HO.out j (by have := HI.out; omega)) (fun j hj => HK.out j (by have := HI.out; omega))
        subst er
        go_wp2_with (fail)
        go_ret
        exact ⟨rfl, HB.out⟩
  · have h80' : (20 : Int) < (m : Int) := by omega
    have er := N1.out h80
    subst er
    go_enter Tryz.func31, Tryz.ntmps31
    go_wp2
    go_ret
    exact ⟨rfl, Below.refl _ _⟩
end Go.Proofs.YtllajhieocploaaGreatDoor.Bu
