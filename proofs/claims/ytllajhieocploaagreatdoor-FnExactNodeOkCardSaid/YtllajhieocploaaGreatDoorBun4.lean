/-
  secretOk and timeOk of the program; the three shapes of a Roll; shapeOf, signerOf, RollOk, NewRoll and Signing of the program.
  signerOf, RollOk, NewRoll and Signing of the program; which shape a value has.
  A slice as a value: where it begins, how long it is, how much room it has.
  One Replica: two slices, a book and Members; what the laws do with it: the measure, the copy, whether two are alike.
  A Replica that is right.
-/
import Derived.Test.YtllajhieocploaaGreatDoorBun3
import Derived.Handy
import Derived.WideLaws
import Derived.Test.YtllajhieocploaaGreatDoorMem
import Derived.WalkKit
import Derived.Test.YtllajhieocploaaGreatDoorBun1
import Derived.Test.YtllajhieocploaaGreatDoorMem2L
import Derived.Test.YtllajhieocploaaGreatDoorBoxM
import Derived.Test.YtllajhieocploaaGreatDoorBokS
import Derived.Test.YtllajhieocploaaGreatDoorBun2
namespace Go.Proofs.YtllajhieocploaaGreatDoor.Ro
open Go.ChangeShapes Go.WideShapes Go.ChangeAt Go.RowKit
set_option linter.unusedVariables false
theorem impl_secretOk (n : Int) (w : World) : Calls Tryz.prog 96 #[.int .i64 n] w fun e w' => e = .returned (.bool (secB n)) ∧ w' = w := by
  have e2 : decide (n < 2549) = decide (n ≤ 2548) := decide_eq_decide.2 (by omega)
  unfold secB inB
  by_cases h : 1 ≤ n
  · have h' : decide (1 ≤ n) = true := decide_eq_true h
    have h'' : (0 : Int) < n := by omega
    rw [h', Bool.true_and]
    go_enter Tryz.func96, Tryz.ntmps96
    go_wp2
    go_ret
    first | exact ⟨rfl, rfl⟩ | exact ⟨by rw [← e2]; rfl, rfl⟩
  · have h' : decide (1 ≤ n) = false := decide_eq_false h
    have h'' : ¬ (0 : Int) < n := by omega
    rw [h', Bool.false_and]
    go_enter Tryz.func96, Tryz.ntmps96
    go_wp2
    go_ret
    exact ⟨rfl, rfl⟩
theorem impl_timeOk (n : Int) (w : World) : Calls Tryz.prog 40 #[.int .i64 n] w fun e w' => e = .returned (.bool (timB n)) ∧ w' = w := by
  have e2 : decide (n ≤ 1000000) = decide (n ≤ 1000000) := decide_eq_decide.2 (by omega)
  unfold timB inB
  by_cases h : 0 ≤ n
  · have h' : decide (0 ≤ n) = true := decide_eq_true h
    have h'' : (0 : Int) ≤ n := by omega
    rw [h', Bool.true_and]
    go_enter Tryz.func40, Tryz.ntmps40
    go_wp2
    go_ret
    first | exact ⟨rfl, rfl⟩ | exact ⟨by rw [← e2]; rfl, rfl⟩
  · have h' : decide (0 ≤ n) = false := decide_eq_false h
    have h'' : ¬ (0 : Int) ≤ n := by omega
    rw [h', Bool.false_and]
    go_enter Tryz.func40, Tryz.ntmps40
    go_wp2
    go_ret
    exact ⟨rfl, rfl⟩
abbrev stV (m o a : Int) : Value := .iface 148 (.agg #[.int .i64 m, .int .i64 o, .int .i64 a])
abbrev rdV (m o n a : Int) : Value := .iface 150 (.agg #[.int .i64 m, .int .i64 o, .int .i64 n, .int .i64 a])
abbrev mvV (m o n a : Int) : Value := .iface 151 (.agg #[.int .i64 m, .int .i64 o, .int .i64 n, .int .i64 a])
def shV (p m o n a : Int) : Value := if rollOk p m o n a = false then .nilIface else if p = 1 then stV m o a else if p = 2 then rdV m o n a else mvV m o n a
set_option maxRecDepth 100000 in
set_option maxHeartbeats 8000000 in
theorem impl_shapeOf (p m o n a : Int) (w : World) : Calls Tryz.prog 65 #[rv p m o n a] w fun e w' => e = .returned (shV p m o n a) ∧ w' = w.alloc (rbox p m o n a 38) := by
  have S0 := hidIt (fun W => impl_secretOk m W)
  have S1 := hidIt (fun W => impl_secretOk o W)
  have S2 := hidIt (fun W => impl_secretOk n W)
  have T0 := hidIt (fun W => impl_timeOk a W)
  cases hm : secB m with
  | false =>
    rw [hm] at S0
    have e : shV p m o n a = .nilIface := by simp [shV, rollOk, rollB, hm]
    rw [e]
    clear e
    go_enter Tryz.func65, Tryz.ntmps65
    go_wp2_with (fail)
    refine (S0.out _).mono ?_
    rintro e w1 ⟨rfl, rfl⟩
    go_wp2_with (fail)
    go_ret
    exact ⟨rfl, rfl⟩
  | true =>
    rw [hm] at S0
    cases ho : secB o with
    | false =>
      rw [ho] at S1
      have e : shV p m o n a = .nilIface := by simp [shV, rollOk, rollB, hm, ho]
      rw [e]
      clear e
      go_enter Tryz.func65, Tryz.ntmps65
      go_wp2_with (fail)
      refine (S0.out _).mono ?_
      rintro e w1 ⟨rfl, rfl⟩
      go_wp2_with (fail)
      refine (S1.out _).mono ?_
      rintro e w1 ⟨rfl, rfl⟩
      go_wp2_with (fail)
      go_ret
      exact ⟨rfl, rfl⟩
    | true =>
      rw [ho] at S1
      cases ha : timB a with
      | false =>
        rw [ha] at T0
        have e : shV p m o n a = .nilIface := by simp [shV, rollOk, rollB, hm, ho, ha]
        rw [e]
        clear e
        go_enter Tryz.func65, Tryz.ntmps65
        go_wp2_with (fail)
        refine (S0.out _).mono ?_
        rintro e w1 ⟨rfl, rfl⟩
        go_wp2_with (fail)
        refine (S1.out _).mono ?_
        rintro e w1 ⟨rfl, rfl⟩
        go_wp2_with (fail)
        refine (T0.out _).mono ?_
        rintro e w1 ⟨rfl, rfl⟩
        go_wp2_with (fail)
        go_ret
        exact ⟨rfl, rfl⟩
      | true =>
        rw [ha] at T0
        by_cases h1 : p = 1
        · subst h1
          by_cases h0 : n = 0
          · subst h0
            have e : shV 1 m o 0 a = stV m o a := by simp [shV, rollOk, rollB, hm, ho, ha]
            rw [e]
            clear e
            go_enter Tryz.func65, Tryz.ntmps65
            go_wp2_with (fail)
            refine (S0.out _).mono ?_
            rintro e w1 ⟨rfl, rfl⟩
            go_wp2_with (fail)
            refine (S1.out _).mono ?_
            rintro e w1 ⟨rfl, rfl⟩
            go_wp2_with (fail)
            refine (T0.out _).mono ?_
            rintro e w1 ⟨rfl, rfl⟩
            go_wp2_with (fail)
            go_ret
            exact ⟨rfl, rfl⟩
          · have h0b : (n == 0) = false := by simpa using h0
            have e : shV 1 m o n a = .nilIface := by simp [shV, rollOk, rollB, hm, ho, ha, h0b]
            rw [e]
            clear e
            go_enter Tryz.func65, Tryz.ntmps65
            go_wp2_with (fail)
            refine (S0.out _).mono ?_
            rintro e w1 ⟨rfl, rfl⟩
            go_wp2_with (fail)
            refine (S1.out _).mono ?_
            rintro e w1 ⟨rfl, rfl⟩
            go_wp2_with (fail)
            refine (T0.out _).mono ?_
            rintro e w1 ⟨rfl, rfl⟩
            go_wp2_with (fail)
            go_ret
            exact ⟨rfl, rfl⟩
        · have h1b : (p == 1) = false := by simpa using h1
          by_cases h2 : p = 2
          · subst h2
            cases hn : secB n with
            | true =>
              rw [hn] at S2
              have e : shV 2 m o n a = rdV m o n a := by simp [shV, rollOk, rollB, hm, ho, ha, hn, inB]
              rw [e]
              clear e
              go_enter Tryz.func65, Tryz.ntmps65
              go_wp2_with (fail)
              refine (S0.out _).mono ?_
              rintro e w1 ⟨rfl, rfl⟩
              go_wp2_with (fail)
              refine (S1.out _).mono ?_
              rintro e w1 ⟨rfl, rfl⟩
              go_wp2_with (fail)
              refine (T0.out _).mono ?_
              rintro e w1 ⟨rfl, rfl⟩
              go_wp2_with (fail)
              refine (S2.out _).mono ?_
              rintro e w1 ⟨rfl, rfl⟩
              go_wp2_with (fail)
              go_ret
              exact ⟨rfl, rfl⟩
            | false =>
              rw [hn] at S2
              have e : shV 2 m o n a = .nilIface := by simp [shV, rollOk, rollB, hm, ho, ha, hn]
              rw [e]
              clear e
              go_enter Tryz.func65, Tryz.ntmps65
              go_wp2_with (fail)
              refine (S0.out _).mono ?_
              rintro e w1 ⟨rfl, rfl⟩
              go_wp2_with (fail)
              refine (S1.out _).mono ?_
              rintro e w1 ⟨rfl, rfl⟩
              go_wp2_with (fail)
              refine (T0.out _).mono ?_
              rintro e w1 ⟨rfl, rfl⟩
              go_wp2_with (fail)
              refine (S2.out _).mono ?_
              rintro e w1 ⟨rfl, rfl⟩
              go_wp2_with (fail)
              go_ret
              exact ⟨rfl, rfl⟩
          · have h2b : (p == 2) = false := by simpa using h2
            by_cases h3 : p = 3
            · subst h3
              cases hn : secB n with
              | true =>
                rw [hn] at S2
                have e : shV 3 m o n a = mvV m o n a := by simp [shV, rollOk, rollB, hm, ho, ha, hn, inB]
                rw [e]
                clear e
                go_enter Tryz.func65, Tryz.ntmps65
                go_wp2_with (fail)
                refine (S0.out _).mono ?_
                rintro e w1 ⟨rfl, rfl⟩
                go_wp2_with (fail)
                refine (S1.out _).mono ?_
                rintro e w1 ⟨rfl, rfl⟩
                go_wp2_with (fail)
                refine (T0.out _).mono ?_
                rintro e w1 ⟨rfl, rfl⟩
                go_wp2_with (fail)
                refine (S2.out _).mono ?_
                rintro e w1 ⟨rfl, rfl⟩
                go_wp2_with (fail)
                go_ret
                exact ⟨rfl, rfl⟩
              | false =>
                rw [hn] at S2
                have e : shV 3 m o n a = .nilIface := by simp [shV, rollOk, rollB, hm, ho, ha, hn]
                rw [e]
                clear e
                go_enter Tryz.func65, Tryz.ntmps65
                go_wp2_with (fail)
                refine (S0.out _).mono ?_
                rintro e w1 ⟨rfl, rfl⟩
                go_wp2_with (fail)
                refine (S1.out _).mono ?_
                rintro e w1 ⟨rfl, rfl⟩
                go_wp2_with (fail)
                refine (T0.out _).mono ?_
                rintro e w1 ⟨rfl, rfl⟩
                go_wp2_with (fail)
                refine (S2.out _).mono ?_
                rintro e w1 ⟨rfl, rfl⟩
                go_wp2_with (fail)
                go_ret
                exact ⟨rfl, rfl⟩
            · have h3b : (p == 3) = false := by simpa using h3
              have hph : inB p 2 3 = false := by
                unfold inB
                cases h : decide (2 ≤ p) <;> cases h' : decide (p ≤ 3) <;> simp_all <;> omega
              have e : shV p m o n a = .nilIface := by simp [shV, rollOk, rollB, hm, ho, ha, h1, hph]
              rw [e]
              clear e
              go_enter Tryz.func65, Tryz.ntmps65
              go_wp2_with (fail)
              refine (S0.out _).mono ?_
              rintro e w1 ⟨rfl, rfl⟩
              go_wp2_with (fail)
              refine (S1.out _).mono ?_
              rintro e w1 ⟨rfl, rfl⟩
              go_wp2_with (fail)
              refine (T0.out _).mono ?_
              rintro e w1 ⟨rfl, rfl⟩
              go_wp2_with (fail)
              go_ret
              exact ⟨rfl, rfl⟩
end Go.Proofs.YtllajhieocploaaGreatDoor.Ro
namespace Go.Proofs.YtllajhieocploaaGreatDoor.Ro
open Go.ChangeShapes Go.WideShapes Go.ChangeAt Go.RowKit
set_option linter.unusedVariables false
theorem as_st_nil (w : World) : (Instr.typeAssert .nilIface 112 148 true).run Tryz.prog w = .ok (.tuple #[.agg #[.int .i64 0, .int .i64 0, .int .i64 0], .bool false]) w := by kernel_rfl
theorem as_st_st (v : Value) (w : World) : (Instr.typeAssert (.iface 148 v) 112 148 true).run Tryz.prog w = .ok (.tuple #[v, .bool true]) w := by kernel_rfl
theorem as_st_rd (v : Value) (w : World) : (Instr.typeAssert (.iface 150 v) 112 148 true).run Tryz.prog w = .ok (.tuple #[.agg #[.int .i64 0, .int .i64 0, .int .i64 0], .bool false]) w := by kernel_rfl
theorem as_st_mv (v : Value) (w : World) : (Instr.typeAssert (.iface 151 v) 112 148 true).run Tryz.prog w = .ok (.tuple #[.agg #[.int .i64 0, .int .i64 0, .int .i64 0], .bool false]) w := by kernel_rfl
theorem as_rd_nil (w : World) : (Instr.typeAssert .nilIface 112 150 true).run Tryz.prog w = .ok (.tuple #[.agg #[.int .i64 0, .int .i64 0, .int .i64 0, .int .i64 0], .bool false]) w := by kernel_rfl
theorem as_rd_st (v : Value) (w : World) : (Instr.typeAssert (.iface 148 v) 112 150 true).run Tryz.prog w = .ok (.tuple #[.agg #[.int .i64 0, .int .i64 0, .int .i64 0, .int .i64 0], .bool false]) w := by kernel_rfl
theorem as_rd_rd (v : Value) (w : World) : (Instr.typeAssert (.iface 150 v) 112 150 true).run Tryz.prog w = .ok (.tuple #[v, .bool true]) w := by kernel_rfl
theorem as_rd_mv (v : Value) (w : World) : (Instr.typeAssert (.iface 151 v) 112 150 true).run Tryz.prog w = .ok (.tuple #[.agg #[.int .i64 0, .int .i64 0, .int .i64 0, .int .i64 0], .bool false]) w := by kernel_rfl
theorem as_mv_nil (w : World) : (Instr.typeAssert .nilIface 112 151 true).run Tryz.prog w = .ok (.tuple #[.agg #[.int .i64 0, .int .i64 0, .int .i64 0, .int .i64 0], .bool false]) w := by kernel_rfl
theorem as_mv_st (v : Value) (w : World) : (Instr.typeAssert (.iface 148 v) 112 151 true).run Tryz.prog w = .ok (.tuple #[.agg #[.int .i64 0, .int .i64 0, .int .i64 0, .int .i64 0], .bool false]) w := by kernel_rfl
theorem as_mv_rd (v : Value) (w : World) : (Instr.typeAssert (.iface 150 v) 112 151 true).run Tryz.prog w = .ok (.tuple #[.agg #[.int .i64 0, .int .i64 0, .int .i64 0, .int .i64 0], .bool false]) w := by kernel_rfl
theorem as_mv_mv (v : Value) (w : World) : (Instr.typeAssert (.iface 151 v) 112 151 true).run Tryz.prog w = .ok (.tuple #[v, .bool true]) w := by kernel_rfl
attribute [local go_sem] as_st_nil as_st_st as_st_rd as_st_mv as_rd_nil as_rd_st as_rd_rd as_rd_mv as_mv_nil as_mv_st as_mv_rd as_mv_mv
theorem shV_cases (p m o n a : Int) : (rollOk p m o n a = false ∧ shV p m o n a = .nilIface) ∨ (rollOk p m o n a = true ∧ ∃ u v, shV p m o n a = .iface u v) := by
  unfold shV
  cases hr : rollOk p m o n a with
  | false => exact .inl ⟨rfl, rfl⟩
  | true =>
    refine .inr ⟨rfl, ?_⟩
    rw [if_neg (show ¬ true = false by decide)]
    by_cases h1 : p = 1
    · exact ⟨_, _, if_pos h1⟩
    · rw [if_neg h1]
      by_cases h2 : p = 2
      · exact ⟨_, _, if_pos h2⟩
      · exact ⟨_, _, if_neg h2⟩
set_option maxRecDepth 100000 in
set_option maxHeartbeats 4000000 in
theorem impl_RollOk (p m o n a : Int) (w : World) : Calls Tryz.prog 30 #[rv p m o n a] w fun e w' => e = .returned (.bool (rollOk p m o n a)) ∧ w' = (w.alloc (rbox p m o n a 38)).alloc (rbox p m o n a 38) := by
  have C := hidIt (fun W => impl_shapeOf p m o n a W)
  rcases shV_cases p m o n a with ⟨e1, e2⟩ | ⟨e1, u, v, e2⟩
  · rw [e2] at C
    rw [e1]
    clear e1 e2
    go_enter Tryz.func30, Tryz.ntmps30
    go_wp2_with (fail)
    refine (C.out _).mono ?_
    rintro e w1 ⟨rfl, rfl⟩
    go_wp2_with (fail)
    go_ret
    exact ⟨rfl, rfl⟩
  · rw [e2] at C
    rw [e1]
    clear e1 e2
    go_enter Tryz.func30, Tryz.ntmps30
    go_wp2_with (fail)
    refine (C.out _).mono ?_
    rintro e w1 ⟨rfl, rfl⟩
    go_wp2_with (fail)
    go_ret
    exact ⟨rfl, rfl⟩
end Go.Proofs.YtllajhieocploaaGreatDoor.Ro
namespace Go.Proofs.YtllajhieocploaaGreatDoor.Vv
open Go.ChangeShapes Go.WideShapes Go.ChangeAt Go.RowKit
set_option linter.unusedVariables false
theorem hidIt {p : Prop} (h : p) : Hid p := h
/-- A slice: where it begins, how long it is, how much room it has. -/
abbrev Sl := Option Addr × Nat × Nat
abbrev sv (x : Sl) : Value := .slice x.1 x.2.1 x.2.2
end Go.Proofs.YtllajhieocploaaGreatDoor.Vv
namespace Go.Proofs.YtllajhieocploaaGreatDoor.Rp
open Go.ChangeShapes Go.WideShapes Go.ChangeAt Go.RowKit
open Go.Proofs.YtllajhieocploaaGreatDoor.Vv (Sl sv hidIt)
open Go.Proofs.YtllajhieocploaaGreatDoor.Rc (BelowBy BelowBy.one wp_region_below calls_below calls_same)
set_option linter.unusedVariables false
abbrev Rep := List En.Rw × List Mm.Rw
/-- A slice that reads as a list of Entries. -/
structure RdE (w : World) (s : Sl) (L : List En.Rw) : Prop where
  len : s.2.1 = L.length
  rd : En.Rd w s.1 L
  na : s.1 = none → s.2.2 = 0
  le : L.length ≤ s.2.2
  cap : s.2.2 ≤ 9223372036854775807
structure RdM (w : World) (s : Sl) (L : List Mm.Rw) : Prop where
  len : s.2.1 = L.length
  rd : Mm.Rd w s.1 L
  na : s.1 = none → s.2.2 = 0
  le : L.length ≤ s.2.2
  cap : s.2.2 ≤ 9223372036854775807
theorem RdE.kept {w w' : World} {s : Sl} {L : List En.Rw} (h : RdE w s L) (k : Below w.heap.size w w') : RdE w' s L := ⟨h.len, h.rd.kept k, h.na, h.le, h.cap⟩
theorem RdM.kept {w w' : World} {s : Sl} {L : List Mm.Rw} (h : RdM w s L) (k : Below w.heap.size w w') : RdM w' s L := ⟨h.len, h.rd.kept k, h.na, h.le, h.cap⟩
theorem rdE_of {w : World} {base : Nat} {s : Sl} {L : List En.Rw} (h : En.Own w base (sv s) L) : RdE w s L := by
  obtain ⟨a, c, e, h1, h2, r, h4, _⟩ := h.form
  obtain ⟨s0, s1, s2⟩ := s
  simp only [sv, Value.slice.injEq] at e
  obtain ⟨rfl, rfl, rfl⟩ := e
  exact ⟨rfl, r, h4, h1, h2⟩
theorem rdM_of {w : World} {base : Nat} {s : Sl} {L : List Mm.Rw} (h : Mm.Own w base (sv s) L) : RdM w s L := by
  obtain ⟨a, c, e, h1, h2, r, h4, _⟩ := h.form
  obtain ⟨s0, s1, s2⟩ := s
  simp only [sv, Value.slice.injEq] at e
  obtain ⟨rfl, rfl, rfl⟩ := e
  exact ⟨rfl, r, h4, h1, h2⟩
theorem slE {w : World} {base : Nat} {v : Value} {L : List En.Rw} (h : En.Own w base v L) : ∃ s : Sl, v = sv s := by
  obtain ⟨a, c, e, _⟩ := h.form
  exact ⟨(a, L.length, c), e⟩
theorem slM {w : World} {base : Nat} {v : Value} {L : List Mm.Rw} (h : Mm.Own w base v L) : ∃ s : Sl, v = sv s := by
  obtain ⟨a, c, e, _⟩ := h.form
  exact ⟨(a, L.length, c), e⟩
theorem on {W a b : World} (h : Below W.heap.size W a) (k : Below a.heap.size a b) : Below W.heap.size W b := h.trans (k.mono h.size)
/-- How many Entries and Members a Replica has. -/
def bulk1 (r : Rep) : Nat := r.1.length + r.2.length
set_option maxRecDepth 100000 in
set_option maxHeartbeats 4000000 in
theorem sz_any (s t : Sl) (r : Rep) (l : Int) (w : World) (hE : RdE w s r.1) (hM : RdM w t r.2) (hs : ∀ j, j < r.1.length → (En.rat r.1 j).1.size ≤ 9223372036854775807 ∧ (En.rat r.1 j).2.1.size ≤ 9223372036854775807) (h0 : 0 ≤ l) (h1 : l ≤ 1048576) :
    Calls Tryz.prog 16 #[.agg #[sv s, sv t], .int .i64 l] w fun e w' => ∃ q : Int, e = .returned (.int .i64 q) ∧ En.Le2 q l (bulk1 r) ∧ Below w.heap.size w w' := by
  obtain ⟨s0, s1, s2⟩ := s
  obtain ⟨t0, t1, t2⟩ := t
  obtain ⟨e1, rE, nE, lE, cE⟩ := hE
  obtain ⟨e2, rM, nM, lM, cM⟩ := hM
  simp only at e1 rE nE lE cE e2 rM nM lM cM
  subst e1 e2
  have C1 := hidIt (fun W (k : En.Rd W s0 r.1) => En.szS_any s0 s2 r.1 l W k (by omega) hs h0 h1)
  have C2 := hidIt (fun l' W (k : Mm.Rd W t0 r.2) => Mm.szS_any t0 t2 r.2 l' W k (by omega))
  have HE := hidIt rE
  have HM := hidIt rM
  clear rE rM hs
  unfold bulk1
  generalize r.1.length = m1 at *
  generalize r.2.length = m2 at *
  have BX := hidIt (Bo.Box.new w #[.slice s0 m1 s2, .slice t0 m2 t2] 25)
  have HB := hidIt ((Below.refl w.heap.size w).alloc (Nat.le_refl _) (.cells #[.slice s0 m1 s2, .slice t0 m2 t2] 25))
  go_enter Tryz.func16, Tryz.ntmps16
  go_wp2_with (fail)
  refine (C1.out _ (HE.out.kept HB.out)).mono ?_
  rintro e w1 ⟨q, rfl, hq, _, k1⟩
  have HQ := hidIt hq
  have HB1 := hidIt (on HB.out k1)
  have b1 := (BX.out.kept k1).c 1 rfl
  have q1 := hq.le
  clear k1 hq
  by_cases hneg : q < 0
  · go_wp2_with (fail)
    go_ret
    first | exact ⟨-1, rfl, ⟨by omega, fun h => by omega⟩, HB1.out⟩ | exact ⟨⟨by omega, fun h => by omega⟩, HB1.out⟩
  · go_wp2_with (fail)
    refine (C2.out q _ (HM.out.kept HB1.out) (by omega) (by omega)).mono ?_
    rintro e w2 ⟨p, rfl, hp, _, k2⟩
    have HP := hidIt hp
    have HB2 := hidIt (on HB1.out k2)
    have p1 := hp.le
    clear k2 hp
    by_cases hneg2 : p < 0
    · go_wp2_with (fail)
      go_ret
      first | exact ⟨-1, rfl, ⟨by omega, fun h => by omega⟩, HB2.out⟩ | exact ⟨⟨by omega, fun h => by omega⟩, HB2.out⟩
    · go_wp2_with (fail)
      go_ret
      have h1 := HQ.out.sum (by omega)
      have h2 := HP.out.sum (by omega)
      first | exact ⟨p, rfl, ⟨by omega, fun h => by omega⟩, HB2.out⟩ | exact ⟨⟨by omega, fun h => by omega⟩, HB2.out⟩
/-- A Replica of the call's own comes back. -/
def TwoP (w : World) (r : Rep) (e : Ending) (w' : World) : Prop := ∃ s t : Sl, e = .returned (.agg #[sv s, sv t]) ∧ En.Own w' w.heap.size (sv s) r.1 ∧ Mm.Own w' w.heap.size (sv t) r.2 ∧ Below w.heap.size w w'
theorem TwoP.of {w w' : World} {r : Rep} {e : Ending} {s t : Sl} (h : e = .returned (.agg #[sv s, sv t])) (h1 : En.Own w' w.heap.size (sv s) r.1) (h2 : Mm.Own w' w.heap.size (sv t) r.2) (h3 : Below w.heap.size w w') : TwoP w r e w' := ⟨s, t, h, h1, h2, h3⟩
theorem TwoP.out {w w' : World} {r : Rep} {e : Ending} (h : TwoP w r e w') : ∃ s t : Sl, e = .returned (.agg #[sv s, sv t]) ∧ En.Own w' w.heap.size (sv s) r.1 ∧ Mm.Own w' w.heap.size (sv t) r.2 ∧ Below w.heap.size w w' := h
set_option maxRecDepth 100000 in
set_option maxHeartbeats 8000000 in
theorem to_any (s t : Sl) (r : Rep) (w : World) (hE : RdE w s r.1) (hM : RdM w t r.2) (h1 : r.1.length ≤ 1048576) (h2 : r.2.length ≤ 1048576) :
    Calls Tryz.prog 25 #[.agg #[sv s, sv t]] w fun e w' => TwoP w r e w' := by
  obtain ⟨s0, s1, s2⟩ := s
  obtain ⟨t0, t1, t2⟩ := t
  obtain ⟨e1, rE, nE, lE, cE⟩ := hE
  obtain ⟨e2, rM, nM, lM, cM⟩ := hM
  simp only at e1 rE nE lE cE e2 rM nM lM cM
  subst e1 e2
  have C1 := hidIt (fun W (k : En.Rd W s0 r.1) => En.toS_any s0 s2 r.1 W k h1)
  have C2 := hidIt (fun W (k : Mm.Rd W t0 r.2) => Mm.toS_any t0 t2 r.2 W k h2)
  have HE := hidIt rE
  have HM := hidIt rM
  clear rE rM
  generalize r.1.length = m1 at *
  generalize r.2.length = m2 at *
  have BA : Hid (Bo.Box (((w.alloc (.cells #[.slice s0 m1 s2, .slice t0 m2 t2] 25)).alloc (.cells #[.slice none 0 0, .slice none 0 0] 37)).alloc (.cells #[.slice none 0 0, .slice none 0 0] 37)) w.heap.size #[.slice s0 m1 s2, .slice t0 m2 t2]) := hidIt (((Bo.Box.new w _ _).alloc _).alloc _)
  have BB : Hid (Bo.Box (((w.alloc (.cells #[.slice s0 m1 s2, .slice t0 m2 t2] 25)).alloc (.cells #[.slice none 0 0, .slice none 0 0] 37)).alloc (.cells #[.slice none 0 0, .slice none 0 0] 37)) (w.heap.size + 1) #[.slice none 0 0, .slice none 0 0]) := hidIt ((Bo.Box.newAt (by simp)).alloc _)
  have BC : Hid (Bo.Box (((w.alloc (.cells #[.slice s0 m1 s2, .slice t0 m2 t2] 25)).alloc (.cells #[.slice none 0 0, .slice none 0 0] 37)).alloc (.cells #[.slice none 0 0, .slice none 0 0] 37)) (w.heap.size + 1 + 1) #[.slice none 0 0, .slice none 0 0]) := hidIt (Bo.Box.newAt (by simp))
  have HB : Hid (Below w.heap.size w (((w.alloc (.cells #[.slice s0 m1 s2, .slice t0 m2 t2] 25)).alloc (.cells #[.slice none 0 0, .slice none 0 0] 37)).alloc (.cells #[.slice none 0 0, .slice none 0 0] 37))) := hidIt ((((Below.refl w.heap.size w).alloc (Nat.le_refl _) _).alloc (by simp) _).alloc (by simp; omega) _)
  go_enter Tryz.func25, Tryz.ntmps25
  go_wp2_with (fail)
  refine (C1.out _ (HE.out.kept HB.out)).mono ?_
  rintro e w1 ⟨v1, rfl, hO1, k⟩
  obtain ⟨⟨x0, x1, x2⟩, rfl⟩ := slE hO1
  have ne1 : w.heap.size ≠ w.heap.size + 1 + 1 := by omega
  have ne2 : w.heap.size + 1 ≠ w.heap.size + 1 + 1 := by omega
  have ne3 : w.heap.size + 1 + 1 ≠ w.heap.size := by omega
  have ne4 : w.heap.size + 1 + 1 ≠ w.heap.size + 1 := by omega
  have hle : w.heap.size ≤ w.heap.size + 1 + 1 := by omega
  have hle1 : w.heap.size ≤ w.heap.size + 1 := by omega
  replace BA := hidIt (BA.out.kept k)
  replace BB := hidIt (BB.out.kept k)
  replace BC := hidIt (BC.out.kept k)
  replace HB := hidIt (on HB.out k)
  have HO1 : Hid (En.Own w1 (w.heap.size + 1 + 1 + 1) (.slice x0 x1 x2) r.1) := hidIt (hO1.mono (by simp))
  have hn3 : w.heap.size ≤ w.heap.size + 1 + 1 + 1 := by omega
  have lt1 : Hid (∀ q, (Value.slice x0 x1 x2).ownBlock = some q → w.heap.size + 1 + 1 < q ∧ w.heap.size + 1 < q) := hidIt (fun q hq => by have := (World.ownsRow.lt HO1.out q hq).1; omega)
  clear hO1 k HE C1
  generalize w.heap.size + 1 + 1 + 1 = n3 at *
  generalize w.heap.size + 1 + 1 = n2 at *
  generalize w.heap.size + 1 = n1 at *
  have a1 := BA.out.c 1 (v := .slice t0 m2 t2) rfl
  have c0 := BC.out.c 0 (v := .slice none 0 0) rfl
  have f0 := BC.out.fr 0
  have BC2 := hidIt (BC.out.put (c' := #[.slice x0 x1 x2, .slice none 0 0]) 0 (.slice x0 x1 x2) (by simp) rfl)
  have BB2 := hidIt (BB.out.other (v := .slice x0 x1 x2) (i := 0) ne4)
  have HB2 := hidIt (HB.out.setCell (p := ⟨n2, 0, none⟩) hle (.slice x0 x1 x2))
  have HO2 := hidIt (En.Own.only (c := n2) HO1.out ((Only.refl _ _).setCell 0 (.slice x0 x1 x2)) (.inr fun q hq e => by have := (lt1.out q hq).1; omega))
  clear BC BB HB HO1
  go_wp2_with (fail)
  generalize w1.setCell ⟨n2, 0, none⟩ (.slice x0 x1 x2) = wa at BC2 BB2 HB2 HO2 ⊢
  refine (C2.out _ (HM.out.kept HB2.out)).mono ?_
  rintro e w3 ⟨v3, rfl, hO3, k⟩
  obtain ⟨⟨y0, y1, y2⟩, rfl⟩ := slM hO3
  have HB3 := hidIt (on HB2.out k)
  have BC3 := hidIt (BC2.out.kept k)
  have BB3 := hidIt (BB2.out.kept k)
  have HO3 := hidIt (HO2.out.kept k)
  have hn2 : n2 < wa.heap.size := BC2.out.lt
  have hn1 : n1 < wa.heap.size := BB2.out.lt
  have lt3 : Hid (∀ q, (Value.slice y0 y1 y2).ownBlock = some q → n2 < q ∧ n1 < q) := hidIt (fun q hq => by have := (World.ownsRow.lt hO3 q hq).1; omega)
  have HM3 : Hid (Mm.Own w3 w.heap.size (.slice y0 y1 y2) r.2) := hidIt (hO3.mono HB2.out.size)
  clear hO3 k HM C2 BC2 BB2 HO2 a1 c0 f0 HB2 BA
  have c0 := BC3.out.c 0 (v := .slice x0 x1 x2) rfl
  have c1 := BC3.out.c 1 (v := .slice none 0 0) rfl
  have f1 := BC3.out.fr 1
  have b0 := BB3.out.c 0 (v := .slice none 0 0) rfl
  have b1 := BB3.out.c 1 (v := .slice none 0 0) rfl
  have g0 := BB3.out.fr 0
  have g1 := BB3.out.fr 1
  have Y1 := hidIt ((Only.refl n2 w3).setCell 1 (.slice y0 y1 y2))
  have HO4 := hidIt (HO3.out.only Y1.out (.inr fun q hq e => by have := (lt1.out q hq).1; omega))
  have HM4 := hidIt (HM3.out.only Y1.out (.inr fun q hq e => by have := (lt3.out q hq).1; omega))
  have Y2 := hidIt (((Only.refl n1 (w3.setCell ⟨n2, 1, none⟩ (.slice y0 y1 y2))).setCell 0 (.slice x0 x1 x2)).setCell 1 (.slice y0 y1 y2))
  have HO5 := hidIt (HO4.out.only Y2.out (.inr fun q hq e => by have := (lt1.out q hq).2; omega))
  have HM5 := hidIt (HM4.out.only Y2.out (.inr fun q hq e => by have := (lt3.out q hq).2; omega))
  have HB4 := hidIt (((HB3.out.setCell (p := ⟨n2, 1, none⟩) hle (.slice y0 y1 y2)).setCell (p := ⟨n1, 0, none⟩) hle1 (.slice x0 x1 x2)).setCell (p := ⟨n1, 1, none⟩) hle1 (.slice y0 y1 y2))
  have RB := hidIt (((BB3.out.other (v := .slice y0 y1 y2) (i := 1) ne4).put (c' := #[.slice x0 x1 x2, .slice none 0 0]) 0 (.slice x0 x1 x2) (by simp) rfl).put (c' := #[.slice x0 x1 x2, .slice y0 y1 y2]) 1 (.slice y0 y1 y2) (by simp) rfl)
  clear HO3 HM3 HO4 HM4 Y1 Y2 HB3 BC3 BB3
  go_wp2_with (fail)
  generalize ((w3.setCell ⟨n2, 1, none⟩ (.slice y0 y1 y2)).setCell ⟨n1, 0, none⟩ (.slice x0 x1 x2)).setCell ⟨n1, 1, none⟩ (.slice y0 y1 y2) = wz at HO5 HM5 HB4 RB ⊢
  have q0 := RB.out.c 0 (v := .slice x0 x1 x2) rfl
  have q1 := RB.out.c 1 (v := .slice y0 y1 y2) rfl
  clear c0 c1 b0 b1 f1 g0 g1
  refine bodyPost_end (v := .agg #[.slice x0 x1 x2, .slice y0 y1 y2]) (by simp [results, Tryz.results25, go_sem, q0, q1]) rfl ?_
  exact TwoP.of (s := (x0, x1, x2)) (t := (y0, y1, y2)) rfl (HO5.out.mono hn3) HM5.out HB4.out
set_option maxRecDepth 100000 in
set_option maxHeartbeats 8000000 in
theorem eq_same (s t s' t' : Sl) (r : Rep) (w : World) (hE : RdE w s r.1) (hM : RdM w t r.2) (hE' : RdE w s' r.1) (hM' : RdM w t' r.2) :
    Calls Tryz.prog 34 #[.agg #[sv s, sv t], .agg #[sv s', sv t']] w fun e w' => e = .returned (.bool true) ∧ Below w.heap.size w w' := by
  obtain ⟨s0, s1, s2⟩ := s
  obtain ⟨t0, t1, t2⟩ := t
  obtain ⟨p0, p1, p2⟩ := s'
  obtain ⟨q0, q1, q2⟩ := t'
  obtain ⟨e1, rE, _, _, cE⟩ := hE
  obtain ⟨e2, rM, _, _, cM⟩ := hM
  obtain ⟨e3, rE', _, _, _⟩ := hE'
  obtain ⟨e4, rM', _, _, _⟩ := hM'
  simp only at e1 rE cE e2 rM cM e3 rE' e4 rM'
  have C1 := hidIt (fun W (k : En.Rd W s0 r.1) (k' : En.Rd W p0 r.1) => En.eqS_same s0 p0 s2 p2 r.1 W k k' (by omega))
  have C2 := hidIt (fun W (k : Mm.Rd W t0 r.2) (k' : Mm.Rd W q0 r.2) => Mm.eqS_same t0 q0 t2 q2 r.2 W k k' (by omega))
  rw [← e3] at e1
  rw [← e4] at e2
  subst e1 e2
  rw [← e3] at C1
  rw [← e4] at C2
  have H1 := hidIt rE
  have H2 := hidIt rM
  have H3 := hidIt rE'
  have H4 := hidIt rM'
  clear rE rM rE' rM' e3 e4 cE cM
  have BA := hidIt ((Bo.Box.new w #[.slice s0 s1 s2, .slice t0 t1 t2] 37).alloc (.cells #[.slice p0 s1 p2, .slice q0 t1 q2] 37))
  have BB : Hid (Bo.Box ((w.alloc (.cells #[.slice s0 s1 s2, .slice t0 t1 t2] 37)).alloc (.cells #[.slice p0 s1 p2, .slice q0 t1 q2] 37)) (w.heap.size + 1) #[.slice p0 s1 p2, .slice q0 t1 q2]) := hidIt (Bo.Box.newAt (by simp))
  have HB := hidIt (((Below.refl w.heap.size w).alloc (Nat.le_refl _) (.cells #[.slice s0 s1 s2, .slice t0 t1 t2] 37)).alloc (by simp) (.cells #[.slice p0 s1 p2, .slice q0 t1 q2] 37))
  go_enter Tryz.func34, Tryz.ntmps34
  go_wp2_with (fail)
  refine (C1.out _ (H1.out.kept HB.out) (H3.out.kept HB.out)).mono ?_
  rintro e w1 ⟨rfl, k1⟩
  have a1 := (BA.out.kept k1).c 1 (v := .slice t0 t1 t2) rfl
  have b1 := (BB.out.kept k1).c 1 (v := .slice q0 t1 q2) rfl
  have HB1 := hidIt (on HB.out k1)
  clear k1 BA BB HB
  go_wp2_with (fail)
  refine (C2.out _ (H2.out.kept HB1.out) (H4.out.kept HB1.out)).mono ?_
  rintro e w2 ⟨rfl, k2⟩
  have HB2 := hidIt (on HB1.out k2)
  clear k2
  go_wp2_with (fail)
  go_ret
  exact ⟨rfl, HB2.out⟩
end Go.Proofs.YtllajhieocploaaGreatDoor.Rp
namespace Go.Proofs.YtllajhieocploaaGreatDoor.Rp
open Go.ChangeShapes Go.WideShapes Go.ChangeAt Go.RowKit
open Go.Proofs.YtllajhieocploaaGreatDoor.Vv (Sl sv hidIt)
set_option linter.unusedVariables false
/-- A Replica that is right. -/
def okR (r : Rep) : Bool := Bk.okBk (En.toB r.1) && Mk.okBk (Mm.toB r.2)
end Go.Proofs.YtllajhieocploaaGreatDoor.Rp
