/-
  The laws' pick answers a number of the bytes and the seed alone; big.
-/
import Derived.Test.YtlcbapijpdlolaaDraw
namespace Go.Proofs.Ytlcbapijpdlolaa.Dr
open Go.ChangeShapes Go.WideShapes Go.ChangeAt Go.RowKit
set_option linter.unusedVariables false
theorem hidIt {p : Prop} (h : p) : Hid p := h
/-- The bytes of a draw, by their values. -/
structure CodeF (B : Nat) (w : World) (a : Option Addr) (len : Nat) (f : Nat → Int) : Prop where
  cell : ∀ i, i < len → ∃ b off, a = some ⟨b, off, none⟩ ∧ b < B ∧ w.cell? ⟨b, off + i, none⟩ = some (.int .u8 (f i)) ∧ 0 ≤ f i ∧ f i ≤ 255
theorem CodeF.kept {w w' : World} {a : Option Addr} {len : Nat} {f : Nat → Int} (h : CodeF w.heap.size w a len f) (k : Below w.heap.size w w') : CodeF w.heap.size w' a len f :=
  ⟨fun i hi => by
    obtain ⟨b, off, ea, hb, hc, r⟩ := h.cell i hi
    exact ⟨b, off, ea, hb, by rw [k.cell (by simpa using hb)]; exact hc, r⟩⟩
theorem Code.values {B : Nat} {w : World} {a : Option Addr} {len : Nat} (h : Code B w a len) : ∃ f, CodeF B w a len f := by
  refine ⟨fun i => match a with
    | none => 0
    | some x => match w.cell? ⟨x.block, x.off + i, none⟩ with
      | some (.int .u8 y) => y
      | _ => 0, ⟨fun i hi => ?_⟩⟩
  obtain ⟨b, off, x, rfl, hb, hc, h0, h1⟩ := h.cell i hi
  refine ⟨b, off, rfl, hb, ?_⟩
  simp only [hc]
  exact ⟨trivial, h0, h1⟩
theorem CodeF.code {B : Nat} {w : World} {a : Option Addr} {len : Nat} {f : Nat → Int} (h : CodeF B w a len f) : Code B w a len :=
  ⟨fun i hi => by
    obtain ⟨b, off, ea, hb, hc, r⟩ := h.cell i hi
    exact ⟨b, off, f i, ea, hb, hc, r⟩⟩
/-- What pick has behind i bytes. -/
def pkR (f : Nat → Int) (seed k0 : Int) : Nat → Int
  | 0 => k0
  | i + 1 => (pkR f seed k0 i * 181 + f i + seed) % 1000003
def pk (f : Nat → Int) (len : Nat) (seed n : Int) : Int := pkR f seed (len + 7919 * seed) len % n
theorem pk_bound (f : Nat → Int) (len : Nat) (seed : Int) {n : Int} (hn : 0 < n) : 0 ≤ pk f len seed n ∧ pk f len seed n < n := ⟨Int.emod_nonneg _ (by omega), Int.emod_lt_of_pos _ hn⟩
set_option maxRecDepth 100000 in
set_option maxHeartbeats 800000 in
theorem pick_fix (B : Nat) (a : Option Addr) (len cap : Nat) (seed n : Int) (f : Nat → Int) (w : World) (hc : CodeF B w a len f) (hl : len ≤ 4096) (h0 : 0 ≤ seed) (h1 : seed ≤ 1000000) (hn : 0 < n) :
    Calls Try.prog 19 #[.slice a len cap, .int .i64 seed, .int .i64 n] w fun e w' => e = .returned (.int .i64 (pk f len seed n)) ∧ w' = w := by
  have HC := hidIt hc
  clear hc
  have hnz : ¬ n = 0 := by omega
  have E0 : Hid (pkR f seed (len + 7919 * seed) 0 = len + 7919 * seed) := hidIt rfl
  have E1 : Hid (∀ i, pkR f seed (len + 7919 * seed) (i + 1) = (pkR f seed (len + 7919 * seed) i * 181 + f i + seed) % 1000003) := hidIt (fun _ => rfl)
  have E2 : Hid (pk f len seed n = pkR f seed (len + 7919 * seed) len % n) := hidIt rfl
  generalize pk f len seed n = r at E2 ⊢
  generalize pkR f seed (len + 7919 * seed) = g at E0 E1 E2
  go_enter Try.func19, Try.ntmps19
  go_wp2
  go_loop [7, 8] (fun h i => ∃ (k : Nat) (x : Int), k ≤ len ∧ i = .int .i64 k ∧ h = .int .i64 x ∧ Hid (x = g k) ∧ 0 ≤ x ∧ x ≤ 8000000000) (fun _ i => len - (intOf i).toNat)
  case atStart => exact ⟨0, _, Nat.zero_le _, rfl, rfl, hidIt (by rw [E0.out]), by omega, by omega⟩
  case round =>
    obtain ⟨k, x, hk, rfl, rfl, hx, hx0, hx1⟩ := hrel
    by_cases hlt : k < len
    · obtain ⟨b, off, rfl, hb, hy, y0, y1⟩ := HC.out.cell k hlt
      have E1k := hidIt (E1.out k)
      generalize f k = y at hy y0 y1 E1k
      have hlt' : (k : Int) < (len : Int) := by omega
      go_wp2
      go_round
      case rel => exact ⟨k + 1, _, by omega, by go_num, rfl, hidIt (by rw [E1k.out, ← hx.out]), by omega, by omega⟩
      case measure => simp [intOf]; omega
    · have HK : Hid (k = len) := hidIt (by omega)
      have hlt' : ¬ (k : Int) < (len : Int) := by omega
      go_wp2
      go_ret
      exact ⟨by rw [E2.out, ← HK.out, ← hx.out]; rfl, rfl⟩
theorem big_any (a : Option Addr) (len cap : Nat) (w : World) : Calls Try.prog 9 #[.slice a len cap] w fun e w' => e = .returned (.bool (decide (4096 < (len : Int)))) ∧ w' = w := by
  go_enter Try.func9, Try.ntmps9
  go_wp2
  go_ret
  exact ⟨by simp, rfl⟩
end Go.Proofs.Ytlcbapijpdlolaa.Dr
