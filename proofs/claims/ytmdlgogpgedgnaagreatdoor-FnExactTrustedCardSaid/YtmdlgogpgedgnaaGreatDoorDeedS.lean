/-
  SealOf and Holds of the specification.
-/
import Derived.Test.YtmdlgogpgedgnaaGreatDoorSignZ
import Derived.Test.YtmdlgogpgedgnaaGreatDoorSignU
import Derived.Test.YtmdlgogpgedgnaaGreatDoorRollM
import Derived.Test.YtmdlgogpgedgnaaGreatDoorBoxM
import Derived.Test.YtmdlgogpgedgnaaGreatDoorQuiet
namespace Go.Proofs.YtmdlgogpgedgnaaGreatDoor.Dd
open Go.ChangeShapes Go.WideShapes Go.ChangeAt Go.RowKit
open Cv Cu Sg
open Go.Proofs.YtmdlgogpgedgnaaGreatDoor.Bo (Box Box.new Box.newAt Box.kept Box.alloc Box.put Box.other Box.c Box.drew)
open Go.Proofs.YtmdlgogpgedgnaaGreatDoor.Ro (timB secB inB)
open Go.Proofs.YtmdlgogpgedgnaaGreatDoor.Ro (spec_l9Time)
open Go.Proofs.YtmdlgogpgedgnaaGreatDoor.Rc (BelowBy wp_region_below calls_below calls_same)
set_option linter.unusedVariables false
/-- The cells of a Seal, and the Seal. -/
abbrev sc (k1 k2 u r1 r2 t : Int) : Array Value := #[.int .i64 k1, .int .i64 k2, .int .i64 u, .int .i64 r1, .int .i64 r2, .int .i64 t]
abbrev sv (k1 k2 u r1 r2 t : Int) : Value := .agg (sc k1 k2 u r1 r2 t)
theorem ret_box {fn : Func} {tm : Array Value} {wf : World} {b : Nat} {c : Array Value} {v : Value} (t : Box wf b c) (h : ∀ w2, Box w2 b c → (results fn tm).run Tryz.prog w2 = .ok v w2) : (results fn tm).run Tryz.prog wf = .ok v wf := h wf t
/-- What is sealed: Until, a blank, the text. -/
def stx (u : Nat) (s : ByteArray) : ByteArray := numS u ++ Sg.blank ++ s
theorem stx_eq (u : Nat) (s : ByteArray) : stx u s = numS u ++ ⟨#[32]⟩ ++ s := rfl
theorem stx_size {u : Nat} {s : ByteArray} (hu : u ≤ 1099511627776) : (stx u s).size ≤ s.size + 22 := by
  have := numS_size u hu
  unfold stx
  rw [ByteArray.size_append, ByteArray.size_append, Sg.blank_size]
  omega
def holdsB (K1 K2 u R1 R2 T : Int) (s : ByteArray) (now : Int) : Bool :=
  timB u && (timB now && (decide (now < u) && validB K1 K2 (stx u.toNat s) R1 R2 T))
theorem tim_nat {u : Int} (h : timB u = true) : ∃ m : Nat, u = (m : Int) ∧ m ≤ 1000000 := by
  unfold timB inB at h
  simp only [Bool.and_eq_true, decide_eq_true_eq] at h
  exact ⟨u.toNat, by omega, by omega⟩
theorem sec_nat {u : Int} (h : secB u = true) : ∃ m : Nat, u = (m : Int) ∧ 0 < m ∧ m < 2549 := by
  unfold secB inB at h
  simp only [Bool.and_eq_true, decide_eq_true_eq] at h
  exact ⟨u.toNat, by omega, by omega, by omega⟩
/-- The Seal of a secret, a time and a text. -/
def sealN (n u : Nat) (s : ByteArray) : Int × Int × Int × Int × Int × Int :=
  (((ns (2791, 6375) n).1 : Int), ((ns (2791, 6375) n).2 : Int), (u : Int), ((sgR n (stx u s)).1 : Int), ((sgR n (stx u s)).2 : Int), (sgT n (stx u s) : Int))
theorem sealN_eq (n u : Nat) (s : ByteArray) : sealN n u s = (((ns (2791, 6375) n).1 : Int), ((ns (2791, 6375) n).2 : Int), (u : Int), ((sgR n (stx u s)).1 : Int), ((sgR n (stx u s)).2 : Int), (sgT n (stx u s) : Int)) := sealN.eq_1 n u s
/-- SealOf's answer. -/
def sealR (n : Int) (s : ByteArray) (u : Int) : (Int × Int × Int × Int × Int × Int) × Bool :=
  if secB n && timB u then (sealN n.toNat u.toNat s, true) else ((0, 0, 0, 0, 0, 0), false)
abbrev svt (q : Int × Int × Int × Int × Int × Int) : Value := sv q.1 q.2.1 q.2.2.1 q.2.2.2.1 q.2.2.2.2.1 q.2.2.2.2.2
theorem sealR_yes {n u : Nat} {s : ByteArray} (h : secB n = true) (h' : timB u = true) : sealR n s u = (sealN n u s, true) := by
  unfold sealR
  rw [h, h', Int.toNat_natCast, Int.toNat_natCast]
  rfl
theorem sealR_no {n u : Int} {s : ByteArray} (h : secB n = false ∨ timB u = false) : sealR n s u = ((0, 0, 0, 0, 0, 0), false) := by
  unfold sealR
  rcases h with h | h
  · rw [h]; rfl
  · rw [h, Bool.and_false]; rfl
end Go.Proofs.YtmdlgogpgedgnaaGreatDoor.Dd
