/-
  What FnLongest and FnRules ask, in plain words; what stays while they go on; two lists of Rules that read alike.
-/
import Derived.Test.YtdgnjhppggemhaaRuE
import Derived.Test.YtdgnjhppggemhaaRuJ
import Derived.Laws.StructEq
import Derived.Deep.QuietTactic
import Derived.BigQuiet
import Derived.WideLaws
namespace Go.Proofs.Ytdgnjhppggemhaa.Ru
open Go.ChangeShapes Go.WideShapes Go.ChangeAt Go.RowKit
set_option linter.unusedVariables false
theorem code_at {w wi : World} {a : Option Addr} {len : Nat} (h : Dr.Code w.heap.size w a len) (k : Below w.heap.size w wi) : Dr.Code wi.heap.size wi a len :=
  ⟨fun i hi => by
    obtain ⟨b, off, x, ea, hb, hc, r⟩ := h.cell i hi
    exact ⟨b, off, x, ea, Nat.lt_of_lt_of_le hb k.size, by rw [k.cell (by simpa using hb)]; exact hc, r⟩⟩
set_option maxHeartbeats 2000000 in
theorem big_any (a : Option Addr) (len cap : Nat) (w : World) : Calls Try.prog 8 #[.slice a len cap] w fun e w' => e = .returned (.bool (decide (4096 < (len : Int)))) ∧ w' = w := by
  go_enter Try.func8, Try.ntmps8
  go_wp2
  go_ret
  exact ⟨rfl, rfl⟩
theorem rw_cases (x y : Rw) : x = y ∨ (x.1.toList == y.1.toList) = false ∨ (x.1 = y.1 ∧ (x.2.1 == y.2.1) = false) ∨ (x.1 = y.1 ∧ x.2.1 = y.2.1 ∧ (x.2.2 == y.2.2) = false) := by
  obtain ⟨a, b, c⟩ := x
  obtain ⟨a', b', c'⟩ := y
  by_cases h : a = a'
  · subst h
    cases b <;> cases b' <;> cases c <;> cases c' <;> simp
  · refine .inr (.inl ?_)
    rw [eq_of]
    exact decide_eq_false (fun e => h (bs_inj e))
/-- Where one fits there is one that says, and it is no shorter. -/
theorem fit_for {L : List Rw} {k : Bytes} (h : okR L = true) {i : Nat} (hi : i < L.length) (hf : fit (kat L i) k = true) : (forR L k).isSome = true ∧ (rat L i).1.size ≤ ((forR L k).getD zr).1.size := by
  rw [for_ok h]
  cases e : bestAt L k L.length with
  | none => rw [best_none e i hi] at hf; cases hf
  | some j =>
    obtain ⟨h1, h2, h3⟩ := best_some e
    have := h3 i hi hf
    rw [bs_length, bs_length] at this
    exact ⟨rfl, this⟩
/-- Who says is one of them that fits. -/
theorem for_one {L : List Rw} {k : Bytes} (hs : (forR L k).isSome = true) : ∃ j, j < L.length ∧ fit (kat L j) k = true ∧ rat L j = (forR L k).getD zr := by
  cases h : okR L with
  | false => rw [for_bad h] at hs; cases hs
  | true =>
    rw [for_ok h] at hs ⊢
    cases e : bestAt L k L.length with
    | none => rw [e] at hs; cases hs
    | some j =>
      obtain ⟨h1, h2, h3⟩ := best_some e
      exact ⟨j, h1, h2, rfl⟩
theorem may_of_none {L : List Rw} {k : Bytes} {b : Bool} (h : (forR L k).isSome = false) : mayR L k b = false := by
  unfold mayR
  cases e : forR L k with
  | none => rfl
  | some r => rw [e] at h; cases h
theorem may_says {L : List Rw} {k : Bytes} {b : Bool} (h : mayR L k b = true) : (forR L k).isSome = true ∧ (if b then ((forR L k).getD zr).2.2 else ((forR L k).getD zr).2.1) = true := by
  unfold mayR at h
  cases e : forR L k with
  | none => rw [e] at h; cases h
  | some r => rw [e] at h; exact ⟨rfl, h⟩
/-- What stays: all that was below, and two lists of Rules. -/
structure St (w0 : World) (a b : Option Addr) (L M : List Rw) (W : World) : Prop where
  k : Below w0.heap.size w0 W
  l : Rd W a L
  m : Rd W b M
theorem St.kept {w0 W W' : World} {a b : Option Addr} {L M : List Rw} (h : St w0 a b L M W) (k : Below W.heap.size W W') : St w0 a b L M W' := ⟨h.k.trans (k.mono h.k.size), h.l.kept k, h.m.kept k⟩
theorem St.alloc {w0 W : World} {a b : Option Addr} {L M : List Rw} (h : St w0 a b L M W) (o : Obj) : St w0 a b L M (W.alloc o) := h.kept ((Below.refl _ _).alloc (Nat.le_refl _) o)
end Go.Proofs.Ytdgnjhppggemhaa.Ru
