/-
  The program's MembersOk, Stronger, the copy.
  A region that draws its order, by an invariant: what holds of the slots that have come up, whichever they are, is handed on by each operation; so each operation is looked at once, in however many orders they may come.
  l15Draw and Drawn of the specification. (Written by wip/mkBuW.py.)
  The program's side of chapter 15: sourceOk, timeOk, bucketOk, bucketPlace, BucketsOk, LeftFor, Drawn. (Written by wip/mkBuX.py.)
  NewRoll, Step and Signing of the specification, in plain words.
-/
import Derived.Test.YtllajhieocploaaGreatDoorBun2
import Derived.RegionTactic
import Derived.WalkKit
import Derived.Below
import Derived.Test.YtllajhieocploaaGreatDoorBuS
import Derived.Test.YtllajhieocploaaGreatDoorBuI
import Derived.Test.YtllajhieocploaaGreatDoorBoxM
import Derived.Test.YtllajhieocploaaGreatDoorQuiet
import Derived.WalkMore
import Derived.Test.YtllajhieocploaaGreatDoorRollM
namespace Go.Proofs.YtllajhieocploaaGreatDoor.Mm
open Go.ChangeShapes Go.WideShapes Go.ChangeAt Go.RowKit
open Go.Proofs.YtllajhieocploaaGreatDoor.Rc (BelowBy BelowBy.one wp_region_below calls_below calls_same)
open Go.Proofs.YtllajhieocploaaGreatDoor.Mk (okE newB okBk look Ris IsJoin mergeB)
set_option linter.unusedVariables false
set_option maxHeartbeats 2000000 in
theorem impl_memberIdOk (n : Int) (w : World) : Calls Tryz.prog 121 #[.int .i64 n] w fun e w' => e = .returned (.bool (inB n 0 7)) ∧ w' = w := by
  unfold inB
  rw [show decide (n ≤ 7) = decide (n < 8) from decide_eq_decide.2 (by omega)]
  by_cases h : 0 ≤ n
  · have h' : decide ((0 : Int) ≤ n) = true := decide_eq_true h
    rw [h', Bool.true_and]
    go_enter Tryz.func121, Tryz.ntmps121
    go_wp2
    go_ret
    exact ⟨rfl, rfl⟩
  · have h' : decide ((0 : Int) ≤ n) = false := decide_eq_false h
    rw [h', Bool.false_and]
    go_enter Tryz.func121, Tryz.ntmps121
    go_wp2
    go_ret
    exact ⟨rfl, rfl⟩
set_option maxHeartbeats 2000000 in
theorem impl_timeOk (n : Int) (w : World) : Calls Tryz.prog 40 #[.int .i64 n] w fun e w' => e = .returned (.bool (inB n 0 1000000)) ∧ w' = w := by
  unfold inB
  by_cases h : 0 ≤ n
  · have h' : decide ((0 : Int) ≤ n) = true := decide_eq_true h
    rw [h', Bool.true_and]
    go_enter Tryz.func40, Tryz.ntmps40
    go_wp2
    go_ret
    exact ⟨rfl, rfl⟩
  · have h' : decide ((0 : Int) ≤ n) = false := decide_eq_false h
    rw [h', Bool.false_and]
    go_enter Tryz.func40, Tryz.ntmps40
    go_wp2
    go_ret
    exact ⟨rfl, rfl⟩
set_option maxRecDepth 100000 in
set_option maxHeartbeats 4000000 in
theorem impl_memberOk (x : Rw) (w : World) : Calls Tryz.prog 95 #[rv x] w fun e w' => e = .returned (.bool (okE (toE x))) ∧ Below w.heap.size w w' := by
  rw [okE_eq]
  obtain ⟨a, b, c⟩ := x
  simp only
  have C1 := hidIt (fun W => impl_memberIdOk a W)
  have C2 := hidIt (fun W => impl_timeOk b W)
  generalize inB a 0 7 = k1 at C1 ⊢
  generalize inB b 0 1000000 = k2 at C2 ⊢
  unfold inB
  have HB := hidIt ((Below.refl w.heap.size w).alloc (Nat.le_refl _) (.cells #[.int .i64 a, .int .i64 b, .int .i64 c] 100))
  cases k1 with
  | false =>
    rw [Bool.false_and]
    go_enter Tryz.func95, Tryz.ntmps95
    go_wp2_with (fail)
    refine (C1.out _).mono ?_
    rintro e w1 ⟨rfl, rfl⟩
    go_wp2_with (fail)
    go_ret
    exact ⟨rfl, HB.out⟩
  | true =>
    rw [Bool.true_and]
    cases k2 with
    | false =>
      rw [Bool.false_and]
      go_enter Tryz.func95, Tryz.ntmps95
      go_wp2_with (fail)
      refine (C1.out _).mono ?_
      rintro e w1 ⟨rfl, rfl⟩
      go_wp2_with (fail)
      refine (C2.out _).mono ?_
      rintro e w1 ⟨rfl, rfl⟩
      go_wp2_with (fail)
      go_ret
      exact ⟨rfl, HB.out⟩
    | true =>
      rw [Bool.true_and]
      by_cases h : 0 ≤ c
      · have h' : decide ((0 : Int) ≤ c) = true := decide_eq_true h
        rw [h', Bool.true_and]
        go_enter Tryz.func95, Tryz.ntmps95
        go_wp2_with (fail)
        refine (C1.out _).mono ?_
        rintro e w1 ⟨rfl, rfl⟩
        go_wp2_with (fail)
        refine (C2.out _).mono ?_
        rintro e w1 ⟨rfl, rfl⟩
        go_wp2_with (fail)
        go_ret
        exact ⟨rfl, HB.out⟩
      · have h' : decide ((0 : Int) ≤ c) = false := decide_eq_false h
        rw [h', Bool.false_and]
        go_enter Tryz.func95, Tryz.ntmps95
        go_wp2_with (fail)
        refine (C1.out _).mono ?_
        rintro e w1 ⟨rfl, rfl⟩
        go_wp2_with (fail)
        refine (C2.out _).mono ?_
        rintro e w1 ⟨rfl, rfl⟩
        go_wp2_with (fail)
        go_ret
        exact ⟨rfl, HB.out⟩
theorem book_all {L : List Rw} (h2 : ∀ i, i < L.length → okE (toE (rat L i)) = true) (h3 : ∀ i, i + 1 < L.length → kat L i < kat L (i + 1)) : okBk (toB L) = true := by
  have hr := ris_of h3
  refine book_yes ?_ h2 h3
  have := Mk.ris_short (toB L) 0 hr (fun e he => by
    obtain ⟨x, hx, rfl⟩ := List.mem_map.1 he
    obtain ⟨i, hi, rfl⟩ := List.mem_iff_getElem.1 hx
    have := h2 i hi
    rw [rat_at hi] at this
    exact Mk.okE_key this)
  rw [List.length_map] at this
  exact this
set_option maxRecDepth 100000 in
set_option maxHeartbeats 4000000 in
theorem impl_MembersOk (a : Option Addr) (cap : Nat) (L : List Rw) (w : World) (h : Rd w a L) (hl : L.length ≤ 9223372036854775807) :
    Calls Tryz.prog 64 #[.slice a L.length cap] w fun e w' => e = .returned (.bool (okBk (toB L))) ∧ Below w.heap.size w w' := by
  have N2 : Hid (∀ i, i < L.length → okE (toE (rat L i)) = false → okBk (toB L) = false) := hidIt (fun i hi h => book_no2 hi h)
  have N3 : Hid (∀ i, i + 1 < L.length → ¬ kat L i < kat L (i + 1) → okBk (toB L) = false) := hidIt (fun i hi h => book_no3 hi h)
  have N4 : Hid ((∀ i, i < L.length → okE (toE (rat L i)) = true) → (∀ i, i + 1 < L.length → kat L i < kat L (i + 1)) → okBk (toB L) = true) := hidIt book_all
  generalize okBk (toB L) = r at N2 N3 N4 ⊢
  have HR := hidIt h
  clear h
  generalize hn : L.length = m at *
  have HN := hidIt hn
  clear hn
  go_enter Tryz.func64, Tryz.ntmps64
  go_wp2_with (fail)
  go_loopw [7] (fun y wx => ∃ i : Nat, y = .int .i64 i ∧ i ≤ m ∧ Hid (∀ j, j < i → okE (toE (rat L j)) = true) ∧ Hid (∀ j, j + 1 < i → kat L j < kat L (j + 1)) ∧ Hid (Below w.heap.size w wx)) (fun y _ => (m - intOf y).toNat)
  case atStart => exact ⟨0, rfl, by omega, hidIt (fun j hj => by omega), hidIt (fun j hj => by omega), hidIt (Below.refl _ _)⟩
  case round =>
    obtain ⟨i, rfl, hi, HO, HK, HB⟩ := hrel
    by_cases hin : i < m
    · have hin' : (i : Int) < (m : Int) := by omega
      have HRx := hidIt (HR.out.kept HB.out)
      obtain ⟨b, off, ea, c0, c1, c2⟩ := HRx.out.all (i := i) (by rw [HN.out]; exact hin)
      subst ea
      have CE := hidIt (fun W => impl_memberOk (rat L i) W)
      obtain ⟨ok, hok⟩ : ∃ ok, okE (toE (rat L i)) = ok := ⟨_, rfl⟩
      rw [hok] at CE
      have HOK := hidIt hok
      clear hok
      have hkey : Hid (kat L i = (rat L i).1) := hidIt rfl
      generalize rat L i = x at c0 c1 c2 CE hkey
      obtain ⟨xi, xt, xs⟩ := x
      simp only [rv] at c0 c1 c2 CE hkey
      have BX := hidIt (Bo.Box.new wr #[.int .i64 xi, .int .i64 xt, .int .i64 xs] 100)
      have HBz := hidIt (HB.out.alloc HB.out.size (.cells #[.int .i64 xi, .int .i64 xt, .int .i64 xs] 100))
      have HRz := hidIt (HRx.out.alloc (.cells #[.int .i64 xi, .int .i64 xt, .int .i64 xs] 100))
      cases ok with
      | false =>
        have er := N2.out i hin HOK.out
        subst er
        go_wp2_with (fail)
        generalize wr.alloc (.cells #[.int .i64 xi, .int .i64 xt, .int .i64 xs] 100) = wz at BX HBz HRz ⊢
        haveI := BelowBy.one wz
        have g0 := fun p : BelowBy wz => p.cell (BX.out.c 0 rfl)
        have g1 := fun p : BelowBy wz => p.cell (BX.out.c 1 rfl)
        have g2 := fun p : BelowBy wz => p.cell (BX.out.c 2 rfl)
        refine wp_region_below (by kernel_rfl) (by kernel_rfl) ?_
        repeat (go_big_quiet_step (first | (go_at_call 95; refine calls_below (CE.out _))))
        refine wpQuiet_nil ?_
        intro _ hw'
        obtain ⟨pq, rfl⟩ := hw'
        have HB1 := hidIt (HBz.out.trans (pq.h.mono HBz.out.size))
        generalize pq.world = w2 at HB1 ⊢
        clear g0 g1 g2
        go_wp2_with (fail)
        go_ret
        exact ⟨rfl, HB1.out⟩
      | true =>
        have HO' : Hid (∀ j, j < i + 1 → okE (toE (rat L j)) = true) := hidIt (fun j hj => by
          rcases Nat.lt_succ_iff_lt_or_eq.1 hj with h | h
          · exact HO.out j h
          · subst h; exact HOK.out)
        rcases Nat.eq_zero_or_pos i with hz | hp
        · subst hz
          simp only [Nat.zero_mul, Nat.add_zero] at c0 c1 c2
          go_wp2_with (fail)
          generalize wr.alloc (.cells #[.int .i64 xi, .int .i64 xt, .int .i64 xs] 100) = wz at BX HBz HRz ⊢
          haveI := BelowBy.one wz
          have g0 := fun p : BelowBy wz => p.cell (BX.out.c 0 rfl)
          have g1 := fun p : BelowBy wz => p.cell (BX.out.c 1 rfl)
          have g2 := fun p : BelowBy wz => p.cell (BX.out.c 2 rfl)
          refine wp_region_below (by kernel_rfl) (by kernel_rfl) ?_
          repeat (go_big_quiet_step (first | (go_at_call 95; refine calls_below (CE.out _))))
          refine wpQuiet_nil ?_
          intro _ hw'
          obtain ⟨pq, rfl⟩ := hw'
          have HB1 := hidIt (HBz.out.trans (pq.h.mono HBz.out.size))
          generalize pq.world = w2 at HB1 ⊢
          clear g0 g1 g2
          go_wp2_with (fail)
          exact ⟨⟨1, by simp, by omega, HO', hidIt (fun j hj => by omega), HB1⟩, by simp [intOf]; omega⟩
        · obtain ⟨j, rfl⟩ : ∃ j, i = j + 1 := ⟨i - 1, by omega⟩
          have hpos : (0 : Int) < ((j : Int) + 1) := by omega
          have hj8 : (j : Int) ≤ 9223372036854775806 := by omega
          have hj0 : (0 : Int) ≤ (j : Int) := by omega
          obtain ⟨pk, epk⟩ : ∃ pk, (rat L j).1 = pk := ⟨_, rfl⟩
          have hkj : Hid (kat L j = pk) := hidIt epk
          have EPK := hidIt epk
          clear epk
          go_wp2_with (fail)
          generalize wr.alloc (.cells #[.int .i64 xi, .int .i64 xt, .int .i64 xs] 100) = wz at BX HBz HRz ⊢
          haveI := BelowBy.one wz
          have g0 := fun p : BelowBy wz => p.cell (BX.out.c 0 rfl)
          have g1 := fun p : BelowBy wz => p.cell (BX.out.c 1 rfl)
          have g2 := fun p : BelowBy wz => p.cell (BX.out.c 2 rfl)
          obtain ⟨b', off', ea2, q0, _⟩ := HRz.out.all (i := j) (by rw [HN.out]; omega)
          cases ea2
          rw [EPK.out] at q0
          have k0 := fun p : BelowBy wz => p.cell q0
          clear q0
          by_cases hlt : pk < xi
          · have hd : decide (xi ≤ pk) = false := decide_eq_false (by omega)
            have HK' : Hid (∀ q, q + 1 < j + 1 + 1 → kat L q < kat L (q + 1)) := hidIt (fun q hq => by
              rcases Nat.lt_succ_iff_lt_or_eq.1 (show q + 1 < j + 1 + 1 from hq) with h | h
              · exact HK.out q h
              · have : q = j := by omega
                subst this
                rw [hkj.out, hkey.out]
                exact hlt)
            clear hlt
            refine wp_region_below (by kernel_rfl) (by kernel_rfl) ?_
            repeat (go_big_quiet_step (first | (go_at_call 95; refine calls_below (CE.out _))))
            refine wpQuiet_nil ?_
            intro _ hw'
            obtain ⟨pq, rfl⟩ := hw'
            have HB1 := hidIt (HBz.out.trans (pq.h.mono HBz.out.size))
            generalize pq.world = w2 at HB1 ⊢
            clear g0 g1 g2 k0
            go_wp2_with (fail)
            exact ⟨⟨j + 1 + 1, by simp, by omega, HO', HK', HB1⟩, by simp [intOf]; omega⟩
          · have er := N3.out j (by omega) (by rw [hkj.out, hkey.out]; omega)
            have hd : decide (xi ≤ pk) = true := decide_eq_true (by omega)
            subst er
            clear hlt
            refine wp_region_below (by kernel_rfl) (by kernel_rfl) ?_
            repeat (go_big_quiet_step (first | (go_at_call 95; refine calls_below (CE.out _))))
            refine wpQuiet_nil ?_
            intro _ hw'
            obtain ⟨pq, rfl⟩ := hw'
            have HB1 := hidIt (HBz.out.trans (pq.h.mono HBz.out.size))
            generalize pq.world = w2 at HB1 ⊢
            clear g0 g1 g2 k0
            go_wp2_with (fail)
            go_ret
            exact ⟨rfl, HB1.out⟩
    · have hin' : ¬ (i : Int) < (m : Int) := by omega
      have HI : Hid (i = m) := hidIt (by omega)
      have er := N4.out (fun j hj => HO.out j (by have := HI.out; omega)) (fun j hj => HK.out j (by have := HI.out; omega))
      subst er
      go_wp2_with (fail)
      go_ret
      exact ⟨rfl, HB.out⟩
end Go.Proofs.YtllajhieocploaaGreatDoor.Mm
namespace Go.Proofs.YtllajhieocploaaGreatDoor.Rg
open Go.RowKit
set_option linter.unusedVariables false
/-- Number i has come up. -/
def upd (L : Nat → Bool) (i : Nat) : Nat → Bool := fun j => if j = i then true else L j
/-- Where it binds in any order, each waits for elder ones alone. -/
def depB (ops : Array Oper) : Bool := (List.range ops.size).all fun i => ((ops[i]?).map fun o => o.after.all fun e => !Region.binds .any e || decide (e.on < i)).getD true
theorem dep_of {ops : Array Oper} (h : depB ops = true) {i : Nat} {o : Oper} (ho : ops[i]? = some o) {e : Edge} (he : e ∈ o.after) (hb : Region.binds .any e = true) : e.on < i := by
  unfold depB at h
  rw [List.all_eq_true] at h
  have h1 := h i (List.mem_range.2 (Array.getElem?_eq_some_iff.1 ho).1)
  rw [ho] at h1
  simp only [Option.map_some, Option.getD_some] at h1
  have h2 := Array.all_eq_true_iff_forall_mem.1 h1 e he
  rw [hb] at h2
  simpa using h2
variable {P : Program} {ops : Array Oper} {Q : Exit → Act → World → Prop}
theorem getD_in {l : Array Bool} {i : Nat} (h : i < l.size) (d d' : Bool) : l.getD i d = l.getD i d' := by simp [Array.getD, h]
theorem getD_out {l : Array Bool} {i : Nat} (h : ¬ i < l.size) (d : Bool) : l.getD i d = d := by simp [Array.getD, h]
theorem all_of_ready (hd : depB ops = true) {l : Array Bool} (hz : l.size = ops.size) (hr : Region.ready .any ops l = []) : ∀ i, l.getD i true = true := by
  intro i
  induction i using Nat.strongRecOn with
  | ind i ih =>
    by_cases hi : i < l.size
    · cases hc : l.getD i true with
      | true => rfl
      | false =>
        exfalso
        have ho : ops[i]? = some ops[i] := Array.getElem?_eq_getElem (by omega)
        have : i ∈ Region.ready .any ops l := mem_ready.2 ⟨hc, ops[i], ho, fun e he hb => by
          have := dep_of hd ho he hb
          rw [getD_in (by omega) false true]
          exact ih e.on this⟩
        rw [hr] at this
        cases this
    · exact getD_out hi true
theorem count_upd {l : Array Bool} {i n : Nat} (hi : i < l.size) (hf : l.getD i true = false) (hc : l.toList.count false ≤ n + 1) : (l.setIfInBounds i true).toList.count false ≤ n := by
  have e : l[i] = false := by simpa [Array.getD, hi] using hf
  have h1 : 0 < l.toList.count false := List.count_pos_iff.2 (by rw [← e]; simp)
  rw [Array.toList_setIfInBounds, List.count_set (by simpa using hi)]
  simp [e]
  simp at hc h1
  omega
theorem wpAny_inv (hd : depB ops = true) (I : (Nat → Bool) → Act → World → Prop)
    (hs : ∀ L a w i, i < ops.size → I L a w → L i = false → (∀ o, ops[i]? = some o → ∀ e ∈ o.after, Region.binds .any e = true → L e.on = true) → wpOp P ops Q i (fun a' w' => I (upd L i) a' w') a w)
    (hq : ∀ L a w, I L a w → (∀ i, L i = true) → Q .normal a w) :
    ∀ (fuel : Nat) (l : Array Bool) (a : Act) (w : World), l.size = ops.size → l.toList.count false ≤ fuel → I (fun i => l.getD i true) a w → wpAny P .any ops Q fuel l a w := by
  intro fuel
  induction fuel with
  | zero =>
    intro l a w hz hc hI
    have all : ∀ i, l.getD i true = true := by
      intro i
      by_cases hi : i < l.size
      · cases e : l.getD i true with
        | true => rfl
        | false =>
          exfalso
          have e' : l[i] = false := by simpa [Array.getD, hi] using e
          have : 0 < l.toList.count false := List.count_pos_iff.2 (by rw [← e']; simp)
          omega
      · exact getD_out hi true
    refine ⟨?_, hq _ _ _ hI all⟩
    rw [List.eq_nil_iff_forall_not_mem]
    intro i hi
    have := (mem_ready.1 hi).1
    rw [all i] at this
    cases this
  | succ fuel ih =>
    intro l a w hz hc hI
    refine ⟨fun hr => hq _ _ _ hI (all_of_ready hd hz hr), fun i hi => ?_⟩
    obtain ⟨h1, o, ho, h2⟩ := mem_ready.1 hi
    have hlt := (Array.getElem?_eq_some_iff.1 ho).1
    refine wpOp_mono (fun a' w' h => ih _ a' w' (by simpa using hz) (count_upd (by omega) h1 hc) ?_) (hs _ a w i hlt hI h1 (fun o' ho' e he hb => ?_))
    · have e : (fun j => (l.setIfInBounds i true).getD j true) = upd (fun j => l.getD j true) i := by
        funext j
        unfold upd
        by_cases e : j = i
        · subst e
          have hj : j < l.size := by omega
          simp [Array.getD, hj]
        · rw [if_neg e]
          by_cases hj : j < l.size
          · simp [Array.getD, hj, Ne.symm e]
          · simp [Array.getD, hj]
      rw [e]
      exact h
    · rw [ho] at ho'
      cases ho'
      have hon := dep_of hd ho he hb
      have := h2 e he hb
      rw [getD_in (by omega) false true] at this
      exact this
/-- What operation number i of a list waits for. -/
def waits (l : List Oper) (i : Nat) : List Nat := ((l[i]?).map fun o => (o.after.toList.filter (Region.binds .any)).map (·.on)).getD []
theorem wp_region_inv {id : Nat} {a : Act} {w : World} {l : List Oper} (hm : P.follows .mixedOrders = true) (hd : depB l.toArray = true) (I : (Nat → Bool) → Act → World → Prop)
    (h0 : I (fun i => decide (l.length ≤ i)) a w.drew)
    (hs : ∀ L a w i, i < l.length → I L a w → L i = false → (∀ d, (waits l i).contains d = true → L d = true) → wpOp P l.toArray Q i (fun a' w' => I (upd L i) a' w') a w)
    (hq : ∀ L a w, I L a w → (∀ i, L i = true) → Q .normal a w) : (Code.region id l.toArray true).wp P Q a w := by
  refine wp_region_any hm (wpAny_inv hd I (fun L a w i hi hI hL hdep => hs L a w i (by simpa using hi) hI hL (fun d hd' => ?_)) hq _ _ _ _ (by simp) (by simp) ?_)
  · unfold waits at hd'
    cases ho : l[i]? with
    | none => rw [ho] at hd'; simp at hd'
    | some o =>
      rw [ho] at hd'
      simp only [Option.map_some, Option.getD_some] at hd'
      have hm := List.contains_iff_mem.1 hd'
      obtain ⟨e, he, rfl⟩ := List.mem_map.1 hm
      obtain ⟨h1, h2⟩ := List.mem_filter.1 he
      exact hdep o (by simpa using ho) e (by simpa using h1) h2
  · have e : (fun i => (Array.replicate l.toArray.size false).getD i true) = fun i => decide (l.length ≤ i) := by
      funext i
      by_cases h : i < l.length
      · simp [Array.getD, h]
      · simp [Array.getD, h]; omega
    rw [e]
    exact h0
/-- An operation, read off the region's own list. -/
theorem op_at {l : List Oper} {i : Nat} {o : Oper} {K : Act → World → Prop} {a : Act} {w : World} (ho : l[i]? = some o)
    (h : ∀ K' : Act → World → Prop, (∀ a w, K a w → K' a w) → if Region.wanted o (yielded l.toArray a.tmps) = true then Oper.wp P o a w K' Q else K' (a.put o.dst undef) w) : wpOp P l.toArray Q i K a w :=
  wpOp_step (by simpa using ho) h
end Go.Proofs.YtllajhieocploaaGreatDoor.Rg
namespace Go.Proofs.YtllajhieocploaaGreatDoor.Bu
open Go.ChangeShapes Go.WideShapes Go.ChangeAt Go.RowKit
open Go.Proofs.YtllajhieocploaaGreatDoor.Rg (upd waits wp_region_inv op_at)
set_option linter.unusedVariables false
theorem box_cells {w : World} {bl : Nat} {b : Rw} (x : Bo.Box w bl (rc b)) : ∀ j u, (rcells [b])[j]? = some u → w.cell? ((⟨bl, 0, none⟩ : Addr).add j) = some u := by
  intro j u hj
  match j, hj with
  | 0, hj => simp [rcells] at hj; subst hj; rw [Go.WideShapes.add_plain]; exact x.c 0 rfl
  | 1, hj => simp [rcells] at hj; subst hj; rw [Go.WideShapes.add_plain]; exact x.c 1 rfl
  | 2, hj => simp [rcells] at hj; subst hj; rw [Go.WideShapes.add_plain]; exact x.c 2 rfl
  | j + 3, hj => simp [rcells] at hj
end Go.Proofs.YtllajhieocploaaGreatDoor.Bu
namespace Go.Proofs.YtllajhieocploaaGreatDoor.Bu
open Go.ChangeShapes Go.WideShapes Go.ChangeAt Go.RowKit
open Go.Proofs.YtllajhieocploaaGreatDoor.Rc (BelowBy BelowBy.one wp_region_below calls_below calls_same)
set_option linter.unusedVariables false
set_option maxHeartbeats 2000000 in
theorem impl_sourceOk (n : Int) (w : World) : Calls Tryz.prog 97 #[.int .i64 n] w fun e w' => e = .returned (.bool (inB n 0 99)) ∧ w' = w := by
  unfold inB
  by_cases h : (0 : Int) ≤ n
  · have h' : decide ((0 : Int) ≤ n) = true := decide_eq_true h
    rw [h', Bool.true_and]
    go_enter Tryz.func97, Tryz.ntmps97
    go_wp2
    go_ret
    exact ⟨rfl, rfl⟩
  · have h' : decide ((0 : Int) ≤ n) = false := decide_eq_false h
    rw [h', Bool.false_and]
    go_enter Tryz.func97, Tryz.ntmps97
    go_wp2
    go_ret
    exact ⟨rfl, rfl⟩
set_option maxHeartbeats 2000000 in
theorem impl_timeOk (n : Int) (w : World) : Calls Tryz.prog 40 #[.int .i64 n] w fun e w' => e = .returned (.bool (inB n 0 1000000)) ∧ w' = w := by
  unfold inB
  by_cases h : (0 : Int) ≤ n
  · have h' : decide ((0 : Int) ≤ n) = true := decide_eq_true h
    rw [h', Bool.true_and]
    go_enter Tryz.func40, Tryz.ntmps40
    go_wp2
    go_ret
    exact ⟨rfl, rfl⟩
  · have h' : decide ((0 : Int) ≤ n) = false := decide_eq_false h
    rw [h', Bool.false_and]
    go_enter Tryz.func40, Tryz.ntmps40
    go_wp2
    go_ret
    exact ⟨rfl, rfl⟩
set_option maxRecDepth 100000 in
set_option maxHeartbeats 4000000 in
theorem impl_bucketOk (x : Rw) (w : World) : Calls Tryz.prog 66 #[rv x] w fun e w' => e = .returned (.bool (okX x)) ∧ Below w.heap.size w w' := by
  obtain ⟨x0, x1, x2⟩ := x
  have C1 := hidIt (fun n W => impl_sourceOk n W)
  have C2 := hidIt (fun n W => impl_timeOk n W)
  have HB := hidIt ((Below.refl w.heap.size w).alloc (Nat.le_refl _) (.cells #[.int .i64 x0, .int .i64 x1, .int .i64 x2] 103))
  have BX := hidIt (Bo.Box.new w #[.int .i64 x0, .int .i64 x1, .int .i64 x2] 103)
  have hr : okX (x0, x1, x2) = (inB x0 0 99 && ((decide (0 ≤ x1) && decide (x1 ≤ 5)) && inB x2 0 1000000)) := rfl
  rw [hr]
  clear hr
  have c0 := BX.out.c 0 rfl
  have c1 := BX.out.c 1 rfl
  have c2 := BX.out.c 2 rfl
  cases hk : inB x0 0 99 with
  | false =>
    go_enter Tryz.func66, Tryz.ntmps66
    go_wp2_with (first | (go_at_call 97; refine (C1.out _ _).mono ?_; rintro e w' ⟨rfl, ew⟩; rw [ew, hk]; clear ew w') | fail)
    go_ret
    exact ⟨rfl, HB.out⟩
  | true =>
    by_cases h1 : (0 : Int) ≤ x1
    · by_cases h2 : x1 ≤ 5
      · have e1 : decide ((0 : Int) ≤ x1) = true := decide_eq_true h1
        have e2 : decide (x1 ≤ 5) = true := decide_eq_true h2
        rw [e1, e2]
        generalize hq : inB x2 0 1000000 = k3
        go_enter Tryz.func66, Tryz.ntmps66
        go_wp2_with (first | (go_at_call 97; refine (C1.out _ _).mono ?_; rintro e w' ⟨rfl, ew⟩; rw [ew, hk]; clear ew w') | (go_at_call 40; refine (C2.out _ _).mono ?_; rintro e w' ⟨rfl, ew⟩; rw [ew, hq]; clear ew w') | fail)
        go_ret
        exact ⟨rfl, HB.out⟩
      · have e1 : decide ((0 : Int) ≤ x1) = true := decide_eq_true h1
        have e2 : decide (x1 ≤ 5) = false := decide_eq_false h2
        rw [e1, e2]
        go_enter Tryz.func66, Tryz.ntmps66
        go_wp2_with (first | (go_at_call 97; refine (C1.out _ _).mono ?_; rintro e w' ⟨rfl, ew⟩; rw [ew, hk]; clear ew w') | fail)
        go_ret
        exact ⟨rfl, HB.out⟩
    · have e1 : decide ((0 : Int) ≤ x1) = false := decide_eq_false h1
      rw [e1]
      go_enter Tryz.func66, Tryz.ntmps66
      go_wp2_with (first | (go_at_call 97; refine (C1.out _ _).mono ?_; rintro e w' ⟨rfl, ew⟩; rw [ew, hk]; clear ew w') | fail)
      go_ret
      exact ⟨rfl, HB.out⟩
/-- Where a Source stands, or would. -/
def plcR (L : List Rw) (s : Int) : Nat × Bool := match bat L s with
  | some j => (j, true)
  | none => (plc L s, false)
set_option maxRecDepth 100000 in
set_option maxHeartbeats 4000000 in
theorem impl_BucketsOk (a : Option Addr) (cap : Nat) (L : List Rw) (w : World) (h : Rd w a L) (hl : L.length ≤ 9223372036854775807) :
    Calls Tryz.prog 31 #[.slice a L.length cap] w fun e w' => e = .returned (.bool (okB L)) ∧ Below w.heap.size w w' := by
  have N1 : Hid (¬ L.length ≤ 20 → okB L = false) := hidIt okB_no1
  have N2 : Hid (∀ i, i < L.length → okX (rat L i) = false → okB L = false) := hidIt (fun i hi h => okB_no2 hi h)
  have N3 : Hid (∀ i, i + 1 < L.length → ¬ sat L i < sat L (i + 1) → okB L = false) := hidIt (fun i hi h => okB_no3 hi h)
  have N4 : Hid (L.length ≤ 20 → (∀ i, i < L.length → okX (rat L i) = true) → (∀ i, i + 1 < L.length → sat L i < sat L (i + 1)) → okB L = true) := hidIt okB_yes
  generalize okB L = r at N1 N2 N3 N4 ⊢
  have HR := hidIt h
  clear h
  generalize hn : L.length = m at *
  have HN := hidIt hn
  clear hn
  by_cases h80 : m ≤ 20
  · have h80' : ¬ (20 : Int) < (m : Int) := by omega
    go_enter Tryz.func31, Tryz.ntmps31
    go_wp2_with (fail)
    go_loopw [10] (fun y wx => ∃ i : Nat, y = .int .i64 i ∧ i ≤ m ∧ Hid (∀ j, j < i → okX (rat L j) = true) ∧ Hid (∀ j, j + 1 < i → sat L j < sat L (j + 1)) ∧ Hid (Below w.heap.size w wx)) (fun y _ => (m - intOf y).toNat)
    case atStart => exact ⟨0, rfl, by omega, hidIt (fun j hj => by omega), hidIt (fun j hj => by omega), hidIt (Below.refl _ _)⟩
    case round =>
      obtain ⟨i, rfl, hi, HO, HK, HB⟩ := hrel
      by_cases hin : i < m
      · have hin' : (i : Int) < (m : Int) := by omega
        have HRx := hidIt (HR.out.kept HB.out)
        obtain ⟨b, off, ea, c0, c1, c2⟩ := HRx.out.all (i := i) (by rw [HN.out]; exact hin)
        subst ea
        have CB := hidIt (fun W => impl_bucketOk (rat L i) W)
        obtain ⟨ok, hok⟩ : ∃ ok, okX (rat L i) = ok := ⟨_, rfl⟩
        have HOK := hidIt hok
        rw [hok] at CB
        clear hok
        have hkey : Hid (sat L i = (rat L i).1) := hidIt rfl
        generalize rat L i = x at c0 c1 c2 CB hkey
        obtain ⟨x0, x1, x2⟩ := x
        simp only at c0 c1 c2 CB hkey
        have BX := hidIt (Bo.Box.new wr #[.int .i64 x0, .int .i64 x1, .int .i64 x2] 103)
        have HBz := hidIt (HB.out.alloc HB.out.size (.cells #[.int .i64 x0, .int .i64 x1, .int .i64 x2] 103))
        have HRz := hidIt (HRx.out.alloc (.cells #[.int .i64 x0, .int .i64 x1, .int .i64 x2] 103))
        cases ok with
        | false =>
          have er := N2.out i hin HOK.out
          subst er
          go_wp2_with (fail)
          generalize wr.alloc (.cells #[.int .i64 x0, .int .i64 x1, .int .i64 x2] 103) = wz at BX HBz HRz ⊢
          haveI := BelowBy.one wz
          have g0 := fun p : BelowBy wz => p.cell (BX.out.c 0 rfl)
          have g1 := fun p : BelowBy wz => p.cell (BX.out.c 1 rfl)
          have g2 := fun p : BelowBy wz => p.cell (BX.out.c 2 rfl)
          refine wp_region_below (by kernel_rfl) (by kernel_rfl) ?_
          repeat (go_big_quiet_step (first | (go_at_call 66; refine calls_below (CB.out _))))
          refine wpQuiet_nil ?_
          intro _ hw'
          obtain ⟨pq, rfl⟩ := hw'
          have HB1 := hidIt (HBz.out.trans (pq.h.mono HBz.out.size))
          generalize pq.world = w2 at HB1 ⊢
          clear g0 g1 g2
          go_wp2_with (fail)
          go_ret
          exact ⟨rfl, HB1.out⟩
        | true =>
          have HO' : Hid (∀ j, j < i + 1 → okX (rat L j) = true) := hidIt (fun j hj => by
            rcases Nat.lt_succ_iff_lt_or_eq.1 hj with h | h
            · exact HO.out j h
            · subst h; exact HOK.out)
          rcases Nat.eq_zero_or_pos i with hz | hp
          · subst hz
            simp only [Nat.zero_mul, Nat.add_zero] at c0 c1 c2
            go_wp2_with (fail)
            generalize wr.alloc (.cells #[.int .i64 x0, .int .i64 x1, .int .i64 x2] 103) = wz at BX HBz HRz ⊢
            haveI := BelowBy.one wz
            have g0 := fun p : BelowBy wz => p.cell (BX.out.c 0 rfl)
            have g1 := fun p : BelowBy wz => p.cell (BX.out.c 1 rfl)
            have g2 := fun p : BelowBy wz => p.cell (BX.out.c 2 rfl)
            refine wp_region_below (by kernel_rfl) (by kernel_rfl) ?_
            repeat (go_big_quiet_step (first | (go_at_call 66; refine calls_below (CB.out _))))
            refine wpQuiet_nil ?_
            intro _ hw'
            obtain ⟨pq, rfl⟩ := hw'
            have HB1 := hidIt (HBz.out.trans (pq.h.mono HBz.out.size))
            generalize pq.world = w2 at HB1 ⊢
            clear g0 g1 g2
            go_wp2_with (fail)
            exact ⟨⟨1, by simp, by omega, HO', hidIt (fun j hj => by omega), HB1⟩, by simp [intOf]; omega⟩
          · obtain ⟨j, rfl⟩ : ∃ j, i = j + 1 := ⟨i - 1, by omega⟩
            have hpos : (0 : Int) < ((j : Int) + 1) := by omega
            have hj8 : (j : Int) ≤ 20 := by omega
            have hj0 : (0 : Int) ≤ (j : Int) := by omega
            obtain ⟨pk, epk⟩ : ∃ pk, (rat L j).1 = pk := ⟨_, rfl⟩
            have hkj : Hid (sat L j = pk) := hidIt epk
            have EPK := hidIt epk
            clear epk
            go_wp2_with (fail)
            generalize wr.alloc (.cells #[.int .i64 x0, .int .i64 x1, .int .i64 x2] 103) = wz at BX HBz HRz ⊢
            haveI := BelowBy.one wz
            have g0 := fun p : BelowBy wz => p.cell (BX.out.c 0 rfl)
            have g1 := fun p : BelowBy wz => p.cell (BX.out.c 1 rfl)
            have g2 := fun p : BelowBy wz => p.cell (BX.out.c 2 rfl)
            obtain ⟨b', off', ea2, q0, _⟩ := HRz.out.all (i := j) (by rw [HN.out]; omega)
            cases ea2
            rw [EPK.out] at q0
            have k0 := fun p : BelowBy wz => p.cell q0
            clear q0
            by_cases hlt : pk < x0
            · have hd : decide (x0 ≤ pk) = false := decide_eq_false (by omega)
              have HK' : Hid (∀ q, q + 1 < j + 1 + 1 → sat L q < sat L (q + 1)) := hidIt (fun q hq => by
                rcases Nat.lt_succ_iff_lt_or_eq.1 (show q + 1 < j + 1 + 1 from hq) with h | h
                · exact HK.out q h
                · have : q = j := by omega
                  subst this
                  rw [hkj.out, hkey.out]
                  exact hlt)
              clear hlt
              refine wp_region_below (by kernel_rfl) (by kernel_rfl) ?_
              repeat (go_big_quiet_step (first | (go_at_call 66; refine calls_below (CB.out _))))
              refine wpQuiet_nil ?_
              intro _ hw'
              obtain ⟨pq, rfl⟩ := hw'
              have HB1 := hidIt (HBz.out.trans (pq.h.mono HBz.out.size))
              generalize pq.world = w2 at HB1 ⊢
              clear g0 g1 g2 k0
              go_wp2_with (fail)
              exact ⟨⟨j + 1 + 1, by simp, by omega, HO', HK', HB1⟩, by simp [intOf]; omega⟩
            · have er := N3.out j (by omega) (by rw [hkj.out, hkey.out]; omega)
              have hd : decide (x0 ≤ pk) = true := decide_eq_true (by omega)
              subst er
              clear hlt
              refine wp_region_below (by kernel_rfl) (by kernel_rfl) ?_
              repeat (go_big_quiet_step (first | (go_at_call 66; refine calls_below (CB.out _))))
              refine wpQuiet_nil ?_
              intro _ hw'
              obtain ⟨pq, rfl⟩ := hw'
              have HB1 := hidIt (HBz.out.trans (pq.h.mono HBz.out.size))
              generalize pq.world = w2 at HB1 ⊢
              clear g0 g1 g2 k0
              go_wp2_with (fail)
              go_ret
              exact ⟨rfl, HB1.out⟩
      · have hin' : ¬ (i : Int) < (m : Int) := by omega
        have HI : Hid (i = m) := hidIt (by omega)
        have er := N4.out h80 (fun j hj => HO.out j (by have := HI.out; omega)) (fun j hj => HK.out j (by have := HI.out; omega))
        subst er
        go_wp2_with (fail)
        go_ret
        exact ⟨rfl, HB.out⟩
  · have h80' : (20 : Int) < (m : Int) := by omega
    have er := N1.out h80
    subst er
    go_enter Tryz.func31, Tryz.ntmps31
    go_wp2
    go_ret
    exact ⟨rfl, Below.refl _ _⟩
end Go.Proofs.YtllajhieocploaaGreatDoor.Bu
namespace Go.Proofs.YtllajhieocploaaGreatDoor.Ro
open Go.ChangeShapes Go.WideShapes Go.ChangeAt Go.RowKit
set_option linter.unusedVariables false
abbrev R5 := Int × Int × Int × Int × Int
abbrev rvt (x : R5) : Value := rv x.1 x.2.1 x.2.2.1 x.2.2.2.1 x.2.2.2.2
def newR (m o a : Int) : R5 × Bool := if rollOk 1 m o 0 a = true then ((1, m, o, 0, a), true) else ((0, 0, 0, 0, 0), false)
def stepR (p m o n a now fr : Int) : R5 × Bool :=
  if rollOk p m o n a = false then ((0, 0, 0, 0, 0), false)
  else if timB now = false ∨ now < a + 100 then ((p, m, o, n, a), false)
  else if p = 1 then (if secB fr = false ∨ fr = o ∨ fr = m then ((p, m, o, n, a), false) else ((2, m, o, fr, now), true))
  else if p = 2 then ((3, m, o, n, now), true)
  else ((1, m, n, 0, now), true)
def signR (p m o n a : Int) : Int := if rollOk p m o n a = false then 0 else if p = 3 then n else o
theorem roll_time {p m o n a : Int} (h : rollOk p m o n a = true) : 0 ≤ a ∧ a ≤ 1000000 := by
  unfold rollOk rollB timB inB at h
  simp only [Bool.and_eq_true, decide_eq_true_eq] at h
  exact h.2.2.1
end Go.Proofs.YtllajhieocploaaGreatDoor.Ro
