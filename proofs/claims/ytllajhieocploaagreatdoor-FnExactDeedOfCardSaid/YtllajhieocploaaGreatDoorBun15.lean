/-
  NewRoll, Step and Signing of the specification, in plain words.
  secretOk and timeOk of the program; the three shapes of a Roll; shapeOf, signerOf, RollOk, NewRoll and Signing of the program.
  signerOf, RollOk, NewRoll and Signing of the program; which shape a value has.
  Errors in memory: a package-level variable that holds an error of errors.New's make; an error of the program's own that wraps one, or none.
  KeysText of the program (a strings.Builder; a fault where something is not as told).
-/
import Derived.Test.YtllajhieocploaaGreatDoorBun1
import Derived.Handy
import Derived.WideLaws
import Derived.Test.YtllajhieocploaaGreatDoorBoxM
import Derived.Test.YtllajhieocploaaGreatDoorBun13
import Derived.Test.YtllajhieocploaaGreatDoorBun2
namespace Go.Proofs.YtllajhieocploaaGreatDoor.Ro
open Go.ChangeShapes Go.WideShapes Go.ChangeAt Go.RowKit
set_option linter.unusedVariables false
abbrev R5 := Int × Int × Int × Int × Int
abbrev rvt (x : R5) : Value := rv x.1 x.2.1 x.2.2.1 x.2.2.2.1 x.2.2.2.2
def newR (m o a : Int) : R5 × Bool := if rollOk 1 m o 0 a = true then ((1, m, o, 0, a), true) else ((0, 0, 0, 0, 0), false)
def stepR (p m o n a now fr : Int) : R5 × Bool :=
  if rollOk p m o n a = false then ((0, 0, 0, 0, 0), false)
  else if timB now = false ∨ now < a + 100 then ((p, m, o, n, a), false)
  else if p = 1 then (if secB fr = false ∨ fr = o ∨ fr = m then ((p, m, o, n, a), false) else ((2, m, o, fr, now), true))
  else if p = 2 then ((3, m, o, n, now), true)
  else ((1, m, n, 0, now), true)
def signR (p m o n a : Int) : Int := if rollOk p m o n a = false then 0 else if p = 3 then n else o
theorem roll_time {p m o n a : Int} (h : rollOk p m o n a = true) : 0 ≤ a ∧ a ≤ 1000000 := by
  unfold rollOk rollB timB inB at h
  simp only [Bool.and_eq_true, decide_eq_true_eq] at h
  exact h.2.2.1
end Go.Proofs.YtllajhieocploaaGreatDoor.Ro
namespace Go.Proofs.YtllajhieocploaaGreatDoor.Ro
open Go.ChangeShapes Go.WideShapes Go.ChangeAt Go.RowKit
set_option linter.unusedVariables false
theorem impl_secretOk (n : Int) (w : World) : Calls Tryz.prog 96 #[.int .i64 n] w fun e w' => e = .returned (.bool (secB n)) ∧ w' = w := by
  have e2 : decide (n < 2549) = decide (n ≤ 2548) := decide_eq_decide.2 (by omega)
  unfold secB inB
  by_cases h : 1 ≤ n
  · have h' : decide (1 ≤ n) = true := decide_eq_true h
    have h'' : (0 : Int) < n := by omega
    rw [h', Bool.true_and]
    go_enter Tryz.func96, Tryz.ntmps96
    go_wp2
    go_ret
    first | exact ⟨rfl, rfl⟩ | exact ⟨by rw [← e2]; rfl, rfl⟩
  · have h' : decide (1 ≤ n) = false := decide_eq_false h
    have h'' : ¬ (0 : Int) < n := by omega
    rw [h', Bool.false_and]
    go_enter Tryz.func96, Tryz.ntmps96
    go_wp2
    go_ret
    exact ⟨rfl, rfl⟩
theorem impl_timeOk (n : Int) (w : World) : Calls Tryz.prog 40 #[.int .i64 n] w fun e w' => e = .returned (.bool (timB n)) ∧ w' = w := by
  have e2 : decide (n ≤ 1000000) = decide (n ≤ 1000000) := decide_eq_decide.2 (by omega)
  unfold timB inB
  by_cases h : 0 ≤ n
  · have h' : decide (0 ≤ n) = true := decide_eq_true h
    have h'' : (0 : Int) ≤ n := by omega
    rw [h', Bool.true_and]
    go_enter Tryz.func40, Tryz.ntmps40
    go_wp2
    go_ret
    first | exact ⟨rfl, rfl⟩ | exact ⟨by rw [← e2]; rfl, rfl⟩
  · have h' : decide (0 ≤ n) = false := decide_eq_false h
    have h'' : ¬ (0 : Int) ≤ n := by omega
    rw [h', Bool.false_and]
    go_enter Tryz.func40, Tryz.ntmps40
    go_wp2
    go_ret
    exact ⟨rfl, rfl⟩
abbrev stV (m o a : Int) : Value := .iface 148 (.agg #[.int .i64 m, .int .i64 o, .int .i64 a])
abbrev rdV (m o n a : Int) : Value := .iface 150 (.agg #[.int .i64 m, .int .i64 o, .int .i64 n, .int .i64 a])
abbrev mvV (m o n a : Int) : Value := .iface 151 (.agg #[.int .i64 m, .int .i64 o, .int .i64 n, .int .i64 a])
def shV (p m o n a : Int) : Value := if rollOk p m o n a = false then .nilIface else if p = 1 then stV m o a else if p = 2 then rdV m o n a else mvV m o n a
set_option maxRecDepth 100000 in
set_option maxHeartbeats 8000000 in
theorem impl_shapeOf (p m o n a : Int) (w : World) : Calls Tryz.prog 65 #[rv p m o n a] w fun e w' => e = .returned (shV p m o n a) ∧ w' = w.alloc (rbox p m o n a 38) := by
  have S0 := hidIt (fun W => impl_secretOk m W)
  have S1 := hidIt (fun W => impl_secretOk o W)
  have S2 := hidIt (fun W => impl_secretOk n W)
  have T0 := hidIt (fun W => impl_timeOk a W)
  cases hm : secB m with
  | false =>
    rw [hm] at S0
    have e : shV p m o n a = .nilIface := by simp [shV, rollOk, rollB, hm]
    rw [e]
    clear e
    go_enter Tryz.func65, Tryz.ntmps65
    go_wp2_with (fail)
    refine (S0.out _).mono ?_
    rintro e w1 ⟨rfl, rfl⟩
    go_wp2_with (fail)
    go_ret
    exact ⟨rfl, rfl⟩
  | true =>
    rw [hm] at S0
    cases ho : secB o with
    | false =>
      rw [ho] at S1
      have e : shV p m o n a = .nilIface := by simp [shV, rollOk, rollB, hm, ho]
      rw [e]
      clear e
      go_enter Tryz.func65, Tryz.ntmps65
      go_wp2_with (fail)
      refine (S0.out _).mono ?_
      rintro e w1 ⟨rfl, rfl⟩
      go_wp2_with (fail)
      refine (S1.out _).mono ?_
      rintro e w1 ⟨rfl, rfl⟩
      go_wp2_with (fail)
      go_ret
      exact ⟨rfl, rfl⟩
    | true =>
      rw [ho] at S1
      cases ha : timB a with
      | false =>
        rw [ha] at T0
        have e : shV p m o n a = .nilIface := by simp [shV, rollOk, rollB, hm, ho, ha]
        rw [e]
        clear e
        go_enter Tryz.func65, Tryz.ntmps65
        go_wp2_with (fail)
        refine (S0.out _).mono ?_
        rintro e w1 ⟨rfl, rfl⟩
        go_wp2_with (fail)
        refine (S1.out _).mono ?_
        rintro e w1 ⟨rfl, rfl⟩
        go_wp2_with (fail)
        refine (T0.out _).mono ?_
        rintro e w1 ⟨rfl, rfl⟩
        go_wp2_with (fail)
        go_ret
        exact ⟨rfl, rfl⟩
      | true =>
        rw [ha] at T0
        by_cases h1 : p = 1
        · subst h1
          by_cases h0 : n = 0
          · subst h0
            have e : shV 1 m o 0 a = stV m o a := by simp [shV, rollOk, rollB, hm, ho, ha]
            rw [e]
            clear e
            go_enter Tryz.func65, Tryz.ntmps65
            go_wp2_with (fail)
            refine (S0.out _).mono ?_
            rintro e w1 ⟨rfl, rfl⟩
            go_wp2_with (fail)
            refine (S1.out _).mono ?_
            rintro e w1 ⟨rfl, rfl⟩
            go_wp2_with (fail)
            refine (T0.out _).mono ?_
            rintro e w1 ⟨rfl, rfl⟩
            go_wp2_with (fail)
            go_ret
            exact ⟨rfl, rfl⟩
          · have h0b : (n == 0) = false := by simpa using h0
            have e : shV 1 m o n a = .nilIface := by simp [shV, rollOk, rollB, hm, ho, ha, h0b]
            rw [e]
            clear e
            go_enter Tryz.func65, Tryz.ntmps65
            go_wp2_with (fail)
            refine (S0.out _).mono ?_
            rintro e w1 ⟨rfl, rfl⟩
            go_wp2_with (fail)
            refine (S1.out _).mono ?_
            rintro e w1 ⟨rfl, rfl⟩
            go_wp2_with (fail)
            refine (T0.out _).mono ?_
            rintro e w1 ⟨rfl, rfl⟩
            go_wp2_with (fail)
            go_ret
            exact ⟨rfl, rfl⟩
        · have h1b : (p == 1) = false := by simpa using h1
          by_cases h2 : p = 2
          · subst h2
            cases hn : secB n with
            | true =>
              rw [hn] at S2
              have e : shV 2 m o n a = rdV m o n a := by simp [shV, rollOk, rollB, hm, ho, ha, hn, inB]
              rw [e]
              clear e
              go_enter Tryz.func65, Tryz.ntmps65
              go_wp2_with (fail)
              refine (S0.out _).mono ?_
              rintro e w1 ⟨rfl, rfl⟩
              go_wp2_with (fail)
              refine (S1.out _).mono ?_
              rintro e w1 ⟨rfl, rfl⟩
              go_wp2_with (fail)
              refine (T0.out _).mono ?_
              rintro e w1 ⟨rfl, rfl⟩
              go_wp2_with (fail)
              refine (S2.out _).mono ?_
              rintro e w1 ⟨rfl, rfl⟩
              go_wp2_with (fail)
              go_ret
              exact ⟨rfl, rfl⟩
            | false =>
              rw [hn] at S2
              have e : shV 2 m o n a = .nilIface := by simp [shV, rollOk, rollB, hm, ho, ha, hn]
              rw [e]
              clear e
              go_enter Tryz.func65, Tryz.ntmps65
              go_wp2_with (fail)
              refine (S0.out _).mono ?_
              rintro e w1 ⟨rfl, rfl⟩
              go_wp2_with (fail)
              refine (S1.out _).mono ?_
              rintro e w1 ⟨rfl, rfl⟩
              go_wp2_with (fail)
              refine (T0.out _).mono ?_
              rintro e w1 ⟨rfl, rfl⟩
              go_wp2_with (fail)
              refine (S2.out _).mono ?_
              rintro e w1 ⟨rfl, rfl⟩
              go_wp2_with (fail)
              go_ret
              exact ⟨rfl, rfl⟩
          · have h2b : (p == 2) = false := by simpa using h2
            by_cases h3 : p = 3
            · subst h3
              cases hn : secB n with
              | true =>
                rw [hn] at S2
                have e : shV 3 m o n a = mvV m o n a := by simp [shV, rollOk, rollB, hm, ho, ha, hn, inB]
                rw [e]
                clear e
                go_enter Tryz.func65, Tryz.ntmps65
                go_wp2_with (fail)
                refine (S0.out _).mono ?_
                rintro e w1 ⟨rfl, rfl⟩
                go_wp2_with (fail)
                refine (S1.out _).mono ?_
                rintro e w1 ⟨rfl, rfl⟩
                go_wp2_with (fail)
                refine (T0.out _).mono ?_
                rintro e w1 ⟨rfl, rfl⟩
                go_wp2_with (fail)
                refine (S2.out _).mono ?_
                rintro e w1 ⟨rfl, rfl⟩
                go_wp2_with (fail)
                go_ret
                exact ⟨rfl, rfl⟩
              | false =>
                rw [hn] at S2
                have e : shV 3 m o n a = .nilIface := by simp [shV, rollOk, rollB, hm, ho, ha, hn]
                rw [e]
                clear e
                go_enter Tryz.func65, Tryz.ntmps65
                go_wp2_with (fail)
                refine (S0.out _).mono ?_
                rintro e w1 ⟨rfl, rfl⟩
                go_wp2_with (fail)
                refine (S1.out _).mono ?_
                rintro e w1 ⟨rfl, rfl⟩
                go_wp2_with (fail)
                refine (T0.out _).mono ?_
                rintro e w1 ⟨rfl, rfl⟩
                go_wp2_with (fail)
                refine (S2.out _).mono ?_
                rintro e w1 ⟨rfl, rfl⟩
                go_wp2_with (fail)
                go_ret
                exact ⟨rfl, rfl⟩
            · have h3b : (p == 3) = false := by simpa using h3
              have hph : inB p 2 3 = false := by
                unfold inB
                cases h : decide (2 ≤ p) <;> cases h' : decide (p ≤ 3) <;> simp_all <;> omega
              have e : shV p m o n a = .nilIface := by simp [shV, rollOk, rollB, hm, ho, ha, h1, hph]
              rw [e]
              clear e
              go_enter Tryz.func65, Tryz.ntmps65
              go_wp2_with (fail)
              refine (S0.out _).mono ?_
              rintro e w1 ⟨rfl, rfl⟩
              go_wp2_with (fail)
              refine (S1.out _).mono ?_
              rintro e w1 ⟨rfl, rfl⟩
              go_wp2_with (fail)
              refine (T0.out _).mono ?_
              rintro e w1 ⟨rfl, rfl⟩
              go_wp2_with (fail)
              go_ret
              exact ⟨rfl, rfl⟩
end Go.Proofs.YtllajhieocploaaGreatDoor.Ro
namespace Go.Proofs.YtllajhieocploaaGreatDoor.Ro
open Go.ChangeShapes Go.WideShapes Go.ChangeAt Go.RowKit
set_option linter.unusedVariables false
theorem as_st_nil (w : World) : (Instr.typeAssert .nilIface 112 148 true).run Tryz.prog w = .ok (.tuple #[.agg #[.int .i64 0, .int .i64 0, .int .i64 0], .bool false]) w := by kernel_rfl
theorem as_st_st (v : Value) (w : World) : (Instr.typeAssert (.iface 148 v) 112 148 true).run Tryz.prog w = .ok (.tuple #[v, .bool true]) w := by kernel_rfl
theorem as_st_rd (v : Value) (w : World) : (Instr.typeAssert (.iface 150 v) 112 148 true).run Tryz.prog w = .ok (.tuple #[.agg #[.int .i64 0, .int .i64 0, .int .i64 0], .bool false]) w := by kernel_rfl
theorem as_st_mv (v : Value) (w : World) : (Instr.typeAssert (.iface 151 v) 112 148 true).run Tryz.prog w = .ok (.tuple #[.agg #[.int .i64 0, .int .i64 0, .int .i64 0], .bool false]) w := by kernel_rfl
theorem as_rd_nil (w : World) : (Instr.typeAssert .nilIface 112 150 true).run Tryz.prog w = .ok (.tuple #[.agg #[.int .i64 0, .int .i64 0, .int .i64 0, .int .i64 0], .bool false]) w := by kernel_rfl
theorem as_rd_st (v : Value) (w : World) : (Instr.typeAssert (.iface 148 v) 112 150 true).run Tryz.prog w = .ok (.tuple #[.agg #[.int .i64 0, .int .i64 0, .int .i64 0, .int .i64 0], .bool false]) w := by kernel_rfl
theorem as_rd_rd (v : Value) (w : World) : (Instr.typeAssert (.iface 150 v) 112 150 true).run Tryz.prog w = .ok (.tuple #[v, .bool true]) w := by kernel_rfl
theorem as_rd_mv (v : Value) (w : World) : (Instr.typeAssert (.iface 151 v) 112 150 true).run Tryz.prog w = .ok (.tuple #[.agg #[.int .i64 0, .int .i64 0, .int .i64 0, .int .i64 0], .bool false]) w := by kernel_rfl
theorem as_mv_nil (w : World) : (Instr.typeAssert .nilIface 112 151 true).run Tryz.prog w = .ok (.tuple #[.agg #[.int .i64 0, .int .i64 0, .int .i64 0, .int .i64 0], .bool false]) w := by kernel_rfl
theorem as_mv_st (v : Value) (w : World) : (Instr.typeAssert (.iface 148 v) 112 151 true).run Tryz.prog w = .ok (.tuple #[.agg #[.int .i64 0, .int .i64 0, .int .i64 0, .int .i64 0], .bool false]) w := by kernel_rfl
theorem as_mv_rd (v : Value) (w : World) : (Instr.typeAssert (.iface 150 v) 112 151 true).run Tryz.prog w = .ok (.tuple #[.agg #[.int .i64 0, .int .i64 0, .int .i64 0, .int .i64 0], .bool false]) w := by kernel_rfl
theorem as_mv_mv (v : Value) (w : World) : (Instr.typeAssert (.iface 151 v) 112 151 true).run Tryz.prog w = .ok (.tuple #[v, .bool true]) w := by kernel_rfl
attribute [local go_sem] as_st_nil as_st_st as_st_rd as_st_mv as_rd_nil as_rd_st as_rd_rd as_rd_mv as_mv_nil as_mv_st as_mv_rd as_mv_mv
theorem shV_cases (p m o n a : Int) : (rollOk p m o n a = false ∧ shV p m o n a = .nilIface) ∨ (rollOk p m o n a = true ∧ ∃ u v, shV p m o n a = .iface u v) := by
  unfold shV
  cases hr : rollOk p m o n a with
  | false => exact .inl ⟨rfl, rfl⟩
  | true =>
    refine .inr ⟨rfl, ?_⟩
    rw [if_neg (show ¬ true = false by decide)]
    by_cases h1 : p = 1
    · exact ⟨_, _, if_pos h1⟩
    · rw [if_neg h1]
      by_cases h2 : p = 2
      · exact ⟨_, _, if_pos h2⟩
      · exact ⟨_, _, if_neg h2⟩
set_option maxRecDepth 100000 in
set_option maxHeartbeats 4000000 in
theorem impl_RollOk (p m o n a : Int) (w : World) : Calls Tryz.prog 30 #[rv p m o n a] w fun e w' => e = .returned (.bool (rollOk p m o n a)) ∧ w' = (w.alloc (rbox p m o n a 38)).alloc (rbox p m o n a 38) := by
  have C := hidIt (fun W => impl_shapeOf p m o n a W)
  rcases shV_cases p m o n a with ⟨e1, e2⟩ | ⟨e1, u, v, e2⟩
  · rw [e2] at C
    rw [e1]
    clear e1 e2
    go_enter Tryz.func30, Tryz.ntmps30
    go_wp2_with (fail)
    refine (C.out _).mono ?_
    rintro e w1 ⟨rfl, rfl⟩
    go_wp2_with (fail)
    go_ret
    exact ⟨rfl, rfl⟩
  · rw [e2] at C
    rw [e1]
    clear e1 e2
    go_enter Tryz.func30, Tryz.ntmps30
    go_wp2_with (fail)
    refine (C.out _).mono ?_
    rintro e w1 ⟨rfl, rfl⟩
    go_wp2_with (fail)
    go_ret
    exact ⟨rfl, rfl⟩
end Go.Proofs.YtllajhieocploaaGreatDoor.Ro
namespace Go.Proofs.YtllajhieocploaaGreatDoor.Se
open Go.RowKit
open Go.Proofs.YtllajhieocploaaGreatDoor.Bo (Box Box.new Box.kept)
set_option linter.unusedVariables false
/-- The package-level variable g holds the error of errors.New's make that lies at a. -/
def At (w : World) (g : Nat) (a : Addr) : Prop := w.cell? ⟨g, 0, none⟩ = some (.iface 231 (.pointer (some a)))
theorem At.kept {w w' : World} {g : Nat} {a : Addr} (h : At w g a) (k : Below w.heap.size w w') : At w' g a := by
  unfold At at h ⊢
  rw [k.cell (World.block_lt_of_cell? _ _ h)]
  exact h
theorem At.c {w : World} {g : Nat} {a : Addr} (h : At w g a) : w.cell? ⟨g, 0, none⟩ = some (.iface 231 (.pointer (some a))) := h
/-- The error v: none, or one of the program's own of the part p that wraps the error at a. -/
def Res (w : World) (v : Value) (r : Option (ByteArray × Addr)) : Prop :=
  (r = none ∧ v = .nilIface) ∨ ∃ p a b, r = some (p, a) ∧ v = .iface 171 (.pointer (some ⟨b, 0, none⟩)) ∧ Box w b #[.string p, .iface 231 (.pointer (some a))]
theorem Res.kept {w w' : World} {v : Value} {r : Option (ByteArray × Addr)} (h : Res w v r) (k : Below w.heap.size w w') : Res w' v r := by
  rcases h with h | ⟨p, a, b, h1, h2, h3⟩
  · exact .inl h
  · exact .inr ⟨p, a, b, h1, h2, h3.kept k⟩
theorem Res.none (w : World) : Res w .nilIface none := .inl ⟨rfl, rfl⟩
theorem Res.new (w : World) (p : ByteArray) (a : Addr) : Res (w.alloc (.cells #[.string p, .iface 231 (.pointer (some a))] 173)) (.iface 171 (.pointer (some ⟨w.heap.size, 0, Option.none⟩))) (some (p, a)) :=
  .inr ⟨p, a, w.heap.size, rfl, rfl, Box.new _ _ _⟩
theorem Res.newAt {w : World} {p : ByteArray} {a : Addr} {k : Nat} (h : w.heap.size = k) : Res (w.alloc (.cells #[.string p, .iface 231 (.pointer (some a))] 173)) (.iface 171 (.pointer (some ⟨k, 0, Option.none⟩))) (some (p, a)) := by
  subst h
  exact Res.new w p a
theorem Res.drew {w : World} {v : Value} {r : Option (ByteArray × Addr)} (h : Res w v r) : Res w.drew v r := by
  rcases h with h | ⟨p, a, b, h1, h2, h3⟩
  · exact .inl h
  · exact .inr ⟨p, a, b, h1, h2, h3.drew⟩
end Go.Proofs.YtllajhieocploaaGreatDoor.Se
namespace Go.Proofs.YtllajhieocploaaGreatDoor.Dd
open Go.ChangeShapes Go.WideShapes Go.ChangeAt Go.RowKit
open Cv Cu Sg
open Go.Proofs.YtllajhieocploaaGreatDoor.Pt (Ln lat)
open Go.Proofs.YtllajhieocploaaGreatDoor.Bl (Bld Bld.new Bld.kept writeString_any string_any)
open Go.Proofs.YtllajhieocploaaGreatDoor.Bo (Box Box.new Box.newAt Box.kept Box.alloc Box.put Box.other Box.c Box.drew)
set_option linter.unusedVariables false
theorem keys_fit {L : List Ln} (h : ¬ L.length ≤ 4) : keysB L = false := by
  unfold keysB
  rw [decide_eq_false h, Bool.and_false]
theorem keysT_no {L : List Ln} (h : keysB L = false) : keysT L = ⟨#[]⟩ := by
  unfold keysT
  rw [h]
  rfl
theorem keysT_yes {L : List Ln} (h : keysB L = true) : keysT L = ktx L := by
  unfold keysT
  rw [h]
  rfl
theorem ktx_len {L : List Ln} {i : Nat} (h : (L.take i).all okP = true) (hi : i ≤ L.length) (h4 : L.length ≤ 4) : (ktx (L.take i)).size ≤ 176 := by
  have e : ∀ j, j < (L.take i).length → okP (lat (L.take i) j) = true := fun j hj => by
    rw [lat_eq hj]
    exact List.all_eq_true.1 h _ (List.getElem_mem hj)
  have := ktx_size e (L.take i).length (Nat.le_refl _)
  rw [List.take_length, List.length_take] at this
  omega
set_option maxRecDepth 100000 in
set_option maxHeartbeats 4000000 in
theorem impl_keysText (a : Option Addr) (cap : Nat) (L : List Ln) (eN eM : Addr) (w : World) (h : Pt.Rd w a L) (ht : Tab w) (hN : Se.At w 1 eN) (hM : Se.At w 0 eM) (hl : L.length ≤ 9223372036854775806) :
    Calls Tryz.prog 81 #[.slice a L.length cap] w fun e w' => ∃ v r, e = .returned (.tuple #[.string (keysT L), v]) ∧ Se.Res w' v r ∧ r.isNone = keysB L ∧ Below w.heap.size w w' := by
  by_cases h4 : L.length ≤ 4
  · have hbad : Hid (∀ i, i < L.length → okP (lat L i) = false → keysB L = false ∧ keysT L = ⟨#[]⟩) := hidIt (fun i hi k => ⟨keys_bad hi k, keysT_no (keys_bad hi k)⟩)
    have hend : Hid ((L.take L.length).all okP = true → keysB L = true ∧ keysT L = ktx (L.take L.length)) := hidIt (fun k => by
      have e : keysB L = true := by rw [keys_end k]; exact decide_eq_true h4
      exact ⟨e, by rw [keysT_yes e, List.take_length]⟩)
    have hst : Hid (∀ i, i < L.length → (L.take i).all okP = true → okP (lat L i) = true → (L.take (i + 1)).all okP = true) := hidIt (fun i hi h1 h2 => Nm.all_take hi h1 (by rw [← lat_eq hi]; exact h2))
    have htk : Hid (∀ i, i < L.length → ktx (L.take (i + 1)) = ktx (L.take i) ++ ptS (lat L i).1.toNat (lat L i).2.toNat) := hidIt (fun i hi => ktx_take hi)
    have hsz : Hid (∀ i, i ≤ L.length → (L.take i).all okP = true → (ktx (L.take i)).size ≤ 176) := hidIt (fun i hi k => ktx_len k hi h4)
    have HR := hidIt h
    have HT := hidIt ht
    have HN := hidIt hN
    clear h ht hN hM
    generalize keysB L = kb at hbad hend ⊢
    generalize keysT L = kt at hbad hend ⊢
    generalize hn : L.length = n at *
    have HL := hidIt hn
    clear hn
    have g4 : ¬ (n : Int) > 4 := by omega
    have HD := hidIt (Bld.new w)
    go_enter Tryz.func81, Tryz.ntmps81
    go_wp2_with (fail)
    go_loopw [16] (fun y wx => ∃ i : Nat, y = .int .i64 i ∧ i ≤ n ∧ Hid ((L.take i).all okP = true) ∧ Hid (Bld wx w.heap.size w.heap.size (ktx (L.take i)).data.toList) ∧ Hid (Below w.heap.size w wx)) (fun y _ => (n - intOf y).toNat)
    case atStart => exact ⟨0, rfl, by omega, hidIt rfl, HD, hidIt ((Below.refl _ _).alloc (Nat.le_refl _) _)⟩
    case round =>
      obtain ⟨i, rfl, hi, HA, HDx, HBx⟩ := hrel
      have hs1 := hsz.out i hi HA.out
      rcases Nat.lt_or_ge i n with hin | hin
      · have g2 : (i : Int) < (n : Int) := by omega
        obtain ⟨b, off, rfl, c0, c1⟩ := (HR.out.kept HBx.out).cell i (by rw [HL.out]; exact hin)
        have HS := hidIt (htk.out i hin)
        have Hb := hidIt (hbad.out i hin)
        have Hs := hidIt (hst.out i hin HA.out)
        have hq : okP (lat L i) = okI (lat L i).1 (lat L i).2 := rfl
        rw [hq] at Hb Hs
        clear hq
        have HK := hidIt (fun W => impl_PointOk (lat L i).1 (lat L i).2 W)
        generalize lat L i = p at *
        obtain ⟨x, y⟩ := p
        simp only at HK c0 c1 Hb Hs HS
        have kA := (Below.refl wr.heap.size wr).alloc (Nat.le_refl _) (.cells #[.int .i64 x, .int .i64 y] 48)
        have BX := hidIt (Box.new wr #[.int .i64 x, .int .i64 y] 48)
        have HDy := hidIt (HDx.out.kept kA)
        have HBy := hidIt (HBx.out.trans (kA.mono HBx.out.size))
        clear kA
        cases hk : okI x y with
        | false =>
          rw [hk] at HK
          obtain ⟨rfl, rfl⟩ := Hb.out hk
          clear hk
          go_wp2_with (fail)
          refine (HK.out _).mono ?_
          rintro e w1 ⟨rfl, k⟩
          replace HBy := hidIt (HBy.out.trans (k.mono HBy.out.size))
          clear k
          have cN := (HN.out.kept HBy.out).c
          go_wp2_with (fail)
          go_region
          all_goals
            go_wp2_with (fail)
            refine bodyPost_ret (v := .tuple #[.string ⟨#[]⟩, .iface 171 (.pointer (some ⟨w1.heap.size, 0, none⟩))]) (by simp [results, Tryz.results81, go_sem]) rfl ⟨_, some (_, _), rfl, (Se.Res.newAt rfl).drew, rfl, (HBy.out.alloc HBy.out.size _).drew⟩
        | true =>
          rw [hk] at HK
          have HA3 := hidIt (Hs.out hk)
          obtain ⟨x, y, rfl, rfl, hxy⟩ := okI_nat hk
          have hle := ok_le hxy
          have hs2 := ptS_size x y hle.1 hle.2
          have ep : ptS x y = (numS x ++ ⟨#[32]⟩) ++ (numS y ++ ⟨#[32]⟩) := by unfold ptS; simp only [ByteArray.append_assoc]; rfl
          simp only [Int.toNat_natCast] at HS
          rw [ep] at HS hs2
          have CX := hidIt (fun W t => impl_withBlank x W hle.1 t)
          have CY := hidIt (fun W t => impl_withBlank y W hle.2 t)
          clear hk hxy hle ep
          rw [ByteArray.size_append] at hs2
          generalize numS x ++ ⟨#[32]⟩ = tx at CX HS hs2
          generalize numS y ++ ⟨#[32]⟩ = ty at CY HS hs2
          generalize ktx (L.take i) = v at HS hs1 HDy HDx
          have q1 : ¬ 9223372036854775807 < tx.size + ty.size := by omega
          go_wp2_with (fail)
          refine (HK.out _).mono ?_
          rintro e w1 ⟨rfl, k⟩
          replace HBy := hidIt (HBy.out.trans (k.mono HBy.out.size))
          replace HDy := hidIt (HDy.out.kept k)
          replace BX := hidIt (BX.out.kept k)
          clear k
          have d0 := BX.out.c 0 (v := .int .i64 x) rfl
          have d1 := BX.out.c 1 (v := .int .i64 y) rfl
          have HTz := hidIt (HT.out.kept HBy.out)
          have HTd := hidIt (HTz.out.kept ((Below.refl w1.heap.size w1).drew))
          go_upto_region 9 with fail
          go_region_with (first
            | (go_at_call 113; first
              | ((with_reducible refine (CX.out _ HTd.out).mono ?_); rintro e wA ⟨rfl, kA⟩; have k := (Below.refl w1.heap.size w1).drew.trans kA; have HBA := hidIt (HBy.out.trans (k.mono HBy.out.size)); have HDA := hidIt (HDy.out.kept k); have BXA := hidIt (BX.out.kept k); have HTA := hidIt (HTz.out.kept k); clear k kA; have d1A := BXA.out.c 1 (v := .int .i64 y) rfl)
              | ((with_reducible refine (CY.out _ HTA.out).mono ?_); rintro e wB ⟨rfl, k⟩; have HBB := hidIt (HBA.out.trans (k.mono HBA.out.size)); have HDB := hidIt (HDA.out.kept k); clear k))
            | (go_at_call 115; refine (writeString_any _ _ _ (tx ++ ty) _ HDB.out (by rw [Array.length_toList, ByteArray.size_append]; show v.size + (tx.size + ty.size) ≤ _; omega)).mono ?_; rintro e wC ⟨rfl, hD, k⟩; have HDC := hidIt hD; have HBC := hidIt (HBB.out.trans k); clear hD k))
          all_goals
            go_wp2_with (fail)
            refine ⟨⟨i + 1, by simp, by omega, HA3, hidIt ?_, HBC⟩, by simp [intOf]; omega⟩
            rw [HS.out, ByteArray.data_append, Array.toList_append]
            exact HDC.out
      · have g2 : ¬ (i : Int) < (n : Int) := by omega
        have e : i = n := by omega
        subst e
        obtain ⟨rfl, rfl⟩ := hend.out HA.out
        have CS := hidIt (string_any _ _ _ _ HDx.out)
        go_wp2_with (fail)
        refine CS.out.mono ?_
        rintro e w3 ⟨rfl, k3⟩
        have HB3 := hidIt (HBx.out.trans k3)
        go_wp2_with (fail)
        refine bodyPost_ret (v := .tuple #[.string ⟨(ktx (L.take i)).data.toList.toArray⟩, .nilIface]) (by simp [results, Tryz.results81, go_sem]) rfl ⟨_, _, rfl, Se.Res.none _, rfl, HB3.out⟩
  · rw [keysT_no (keys_fit h4), keys_fit h4]
    have cM := hM.c
    have HW := hidIt (Below.refl w.heap.size w)
    generalize hn : L.length = n at *
    have g4 : (n : Int) > 4 := by omega
    clear h ht hN hM
    go_enter Tryz.func81, Tryz.ntmps81
    go_wp2_with (fail)
    go_region
    all_goals
      go_wp2_with (fail)
      refine bodyPost_ret (v := .tuple #[.string ⟨#[]⟩, .iface 171 (.pointer (some ⟨w.heap.size, 0, none⟩))]) (by simp [results, Tryz.results81, go_sem]) rfl ⟨_, some (_, _), rfl, (Se.Res.newAt rfl).drew, rfl, (HW.out.alloc HW.out.size _).drew⟩
set_option maxRecDepth 100000 in
set_option maxHeartbeats 4000000 in
theorem impl_KeysText (a : Option Addr) (cap : Nat) (L : List Ln) (eN eM : Addr) (w : World) (h : Pt.Rd w a L) (ht : Tab w) (hN : Se.At w 1 eN) (hM : Se.At w 0 eM) (hl : L.length ≤ 9223372036854775806) :
    Calls Tryz.prog 43 #[.slice a L.length cap] w fun e w' => e = .returned (.string (keysT L)) ∧ Below w.heap.size w w' := by
  have CK := hidIt (impl_keysText a cap L eN eM w h ht hN hM hl)
  clear h ht hN hM
  generalize hn : L.length = n at *
  clear hn
  go_enter Tryz.func43, Tryz.ntmps43
  go_wp2_with (fail)
  refine CK.out.mono ?_
  rintro e w1 ⟨v, r, rfl, _, _, k⟩
  have HB := hidIt k
  clear k CK
  go_wp2_with (fail)
  go_ret
  exact ⟨rfl, HB.out⟩
end Go.Proofs.YtllajhieocploaaGreatDoor.Dd
