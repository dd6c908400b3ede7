/-
  The laws' pick answers a number of the bytes and the seed alone; big.
-/
import Derived.Test.YteclbfgkeoiclaaDraw
namespace Go.Proofs.Yteclbfgkeoiclaa.Dr
open Go.ChangeShapes Go.WideShapes Go.ChangeAt Go.RowKit
set_option linter.unusedVariables false
theorem hidIt {p : Prop} (h : p) : Hid p := h
/-- The bytes of a draw, by their values. -/
structure CodeF (B : Nat) (w : World) (a : Option Addr) (len : Nat) (f : Nat → Int) : Prop where
  cell : ∀ i, i < len → ∃ b off, a = some ⟨b, off, none⟩ ∧ b < B ∧ w.cell? ⟨b, off + i, none⟩ = some (.int .u8 (f i)) ∧ 0 ≤ f i ∧ f i ≤ 255
theorem CodeF.kept {w w' : World} {a : Option Addr} {len : Nat} {f : Nat → Int} (h : CodeF w.heap.size w a len f) (k : Below w.heap.size w w') : CodeF w.heap.size w' a len f :=
  ⟨fun i hi => by
    obtain ⟨b, off, ea, hb, hc, r⟩ := h.cell i hi
    exact ⟨b, off, ea, hb, by rw [k.cell (by simpa using hb)]; exact hc, r⟩⟩
theorem Code.values {B : Nat} {w : World} {a : Option Addr} {len : Nat} (h : Code B w a len) : ∃ f, CodeF B w a len f := by
  refine ⟨fun i => match a with
    | none => 0
    | some x => match w.cell? ⟨x.block, x.off + i, none⟩ with
      | some (.int .u8 y) => y
      | _ => 0, ⟨fun i hi => ?_⟩⟩
  obtain ⟨b, off, x, rfl, hb, hc, h0, h1⟩ := h.cell i hi
  refine ⟨b, off, rfl, hb, ?_⟩
  simp only [hc]
  exact ⟨trivial, h0, h1⟩
theorem CodeF.code {B : Nat} {w : World} {a : Option Addr} {len : Nat} {f : Nat → Int} (h : CodeF B w a len f) : Code B w a len :=
  ⟨fun i hi => by
    obtain ⟨b, off, ea, hb, hc, r⟩ := h.cell i hi
    exact ⟨b, off, f i, ea, hb, hc, r⟩⟩
/-- What pick has behind i bytes. -/
def pkR (f : Nat → Int) (seed k0 : Int) : Nat → Int
  | 0 => k0
  | i + 1 => (pkR f seed k0 i * 181 + f i + seed) % 1000003
def pk (f : Nat → Int) (len : Nat) (seed n : Int) : Int := pkR f seed (len + 7919 * seed) len % n
theorem pk_bound (f : Nat → Int) (len : Nat) (seed : Int) {n : Int} (hn : 0 < n) : 0 ≤ pk f len seed n ∧ pk f len seed n < n := ⟨Int.emod_nonneg _ (by omega), Int.emod_lt_of_pos _ hn⟩
theorem big_any (a : Option Addr) (len cap : Nat) (w : World) : Calls Try.prog 4 #[.slice a len cap] w fun e w' => e = .returned (.bool (decide (4096 < (len : Int)))) ∧ w' = w := by
  go_enter Try.func4, Try.ntmps4
  go_wp2
  go_ret
  exact ⟨by simp, rfl⟩
end Go.Proofs.Yteclbfgkeoiclaa.Dr
