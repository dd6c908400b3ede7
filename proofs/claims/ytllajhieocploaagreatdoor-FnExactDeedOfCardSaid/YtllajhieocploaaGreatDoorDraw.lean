/-
  What the drawing functions of the specification answer, whatever the bytes: l1Byte a number from 0 to 255, l1Below one below n, l1Draw some int64; they write into their own cursor alone.
-/
import Derived.Test.YtllajhieocploaaGreatDoorRows
import Derived.WalkKit
import Derived.ProofKit
import Derived.Below
import Derived.Deep.QuietTactic
import Derived.BigQuiet
import Derived.Laws.BitsLemmas
import Derived.Test.YtllajhieocploaaGreatDoorMem
namespace Go.Proofs.YtllajhieocploaaGreatDoor.Dr
open Go.ChangeShapes Go.WideShapes Go.ChangeAt Go.RowKit

/-- The bytes of a draw as they lie: 'len' cells from ⟨b, off⟩ on, each a byte; all of it below block B. -/
structure Code (B : Nat) (w : World) (a : Option Addr) (len : Nat) : Prop where
  cell : ∀ i, i < len → ∃ b off x, a = some ⟨b, off, none⟩ ∧ b < B ∧ w.cell? ⟨b, off + i, none⟩ = some (.int .u8 x) ∧ 0 ≤ x ∧ x ≤ 255

theorem Code.kept {w w' : World} {a : Option Addr} {len : Nat} (h : Code w.heap.size w a len) (k : Below w.heap.size w w') : Code w'.heap.size w' a len :=
  ⟨fun i hi => by
    obtain ⟨b, off, x, ea, hb, hc, r⟩ := h.cell i hi
    exact ⟨b, off, x, ea, Nat.lt_of_lt_of_le hb k.size, by rw [k.cell (by simpa using hb)]; exact hc, r⟩⟩

/-- A cursor of the call's own in block c. -/
structure Cur (B : Nat) (w : World) (c : Nat) (a : Option Addr) (len cap : Nat) : Prop where
  here : B ≤ c
  lt : c < w.heap.size
  code : Code B w a len
  short : len ≤ 4096
  c0 : w.cell? ⟨c, 0, none⟩ = some (.slice a len cap)
  c1 : ∃ i : Nat, i ≤ 4096 ∧ w.cell? ⟨c, 1, none⟩ = some (.int .i64 i)
  c2 : ∃ h : Int, w.cell? ⟨c, 2, none⟩ = some (.int .i64 h)
  f1 : w.frozen? ⟨c, 1, none⟩ = false
  f2 : w.frozen? ⟨c, 2, none⟩ = false

theorem Cur.kept {B : Nat} {w w' : World} {c : Nat} {a : Option Addr} {len cap : Nat} (h : Cur B w c a len cap) (k : Below (c + 1) w w') : Cur B w' c a len cap := by
  obtain ⟨here, lt, code, short, c0, ⟨i, hi, c1⟩, ⟨x, c2⟩, f1, f2⟩ := h
  refine ⟨here, Nat.lt_of_lt_of_le lt k.size, ⟨fun j hj => ?_⟩, short, ?_, ⟨i, hi, ?_⟩, ⟨x, ?_⟩, ?_, ?_⟩
  · obtain ⟨b, off, y, ea, hb, hy, r⟩ := code.cell j hj
    exact ⟨b, off, y, ea, hb, by rw [k.cell (by simp; omega)]; exact hy, r⟩
  · rw [k.cell (by simp)]; exact c0
  · rw [k.cell (by simp)]; exact c1
  · rw [k.cell (by simp)]; exact c2
  · rw [k.frozen (by simp)]; exact f1
  · rw [k.frozen (by simp)]; exact f2
theorem Cur.put1 {B : Nat} {w : World} {c : Nat} {a : Option Addr} {len cap : Nat} (h : Cur B w c a len cap) (n : Nat) (hn : n ≤ 4096) : Cur B (w.setCell ⟨c, 1, none⟩ (.int .i64 n)) c a len cap := by
  obtain ⟨here, lt, code, short, c0, ⟨i, hi, c1⟩, ⟨x, c2⟩, f1, f2⟩ := h
  refine ⟨here, by simpa [World.setCell] using lt, ⟨fun j hj => ?_⟩, short, ?_, ⟨n, hn, ?_⟩, ⟨x, ?_⟩, ?_, ?_⟩
  · obtain ⟨b, off, y, ea, hb, hy, r⟩ := code.cell j hj
    exact ⟨b, off, y, ea, hb, by rw [cell_set_far (by omega)]; exact hy, r⟩
  · rw [cell_set_other (by decide)]; exact c0
  · exact World.cell?_setCell_same' _ _ _ (by rw [c1]; rfl)
  · rw [cell_set_other (by decide)]; exact c2
  · simpa using f1
  · simpa using f2
theorem Cur.put2 {B : Nat} {w : World} {c : Nat} {a : Option Addr} {len cap : Nat} (h : Cur B w c a len cap) (n : Int) : Cur B (w.setCell ⟨c, 2, none⟩ (.int .i64 n)) c a len cap := by
  obtain ⟨here, lt, code, short, c0, ⟨i, hi, c1⟩, ⟨x, c2⟩, f1, f2⟩ := h
  refine ⟨here, by simpa [World.setCell] using lt, ⟨fun j hj => ?_⟩, short, ?_, ⟨i, hi, ?_⟩, ⟨n, ?_⟩, ?_, ?_⟩
  · obtain ⟨b, off, y, ea, hb, hy, r⟩ := code.cell j hj
    exact ⟨b, off, y, ea, hb, by rw [cell_set_far (by omega)]; exact hy, r⟩
  · rw [cell_set_other (by decide)]; exact c0
  · rw [cell_set_other (by decide)]; exact c1
  · exact World.cell?_setCell_same' _ _ _ (by rw [c2]; rfl)
  · simpa using f1
  · simpa using f2
theorem Cur.drewN {B : Nat} {w : World} {c : Nat} {a : Option Addr} {len cap : Nat} (h : Cur B w c a len cap) (n : Nat) : Cur B (w.drewN n) c a len cap :=
  ⟨h.here, h.lt, ⟨h.code.cell⟩, h.short, h.c0, h.c1, h.c2, h.f1, h.f2⟩



theorem Cur.new {B : Nat} {w : World} {a : Option Addr} {len cap : Nat} (hB : B ≤ w.heap.size) (hc : Code B w a len) (hl : len ≤ 4096) (h : Int) (t : TypeId) :
    Cur B (w.alloc (.cells #[.slice a len cap, .int .i64 0, .int .i64 h] t)) w.heap.size a len cap := by
  refine ⟨hB, by simp, ⟨fun j hj => ?_⟩, hl, by simp, ⟨0, by decide, by simp⟩, ⟨h, by simp⟩, by simp, by simp⟩
  obtain ⟨b, off, y, ea, hb, hy, r⟩ := hc.cell j hj
  exact ⟨b, off, y, ea, hb, by rw [((Below.refl B w).alloc hB _).cell (by simpa using hb)]; exact hy, r⟩









end Go.Proofs.YtllajhieocploaaGreatDoor.Dr
