/-
  What l11DrawEntry answers, whatever the bytes: some Entry with texts of at most 41 bytes; it turns nothing that was. (Written by wip/mkEnt.py.)
-/
import Derived.Test.YtmhfaeddfibohaaBokD
import Derived.Test.YtmhfaeddfibohaaBoxM
import Derived.Test.YtmhfaeddfibohaaRegI
import Derived.Deep.Cut
import Derived.Deep.CutRange
import Derived.Deep.OwnRows
import Derived.Lib.ConvBytes
import Derived.Laws.IdiomStrings
namespace Go.Proofs.Ytmhfaeddfibohaa.En
open Go.ChangeShapes Go.WideShapes Go.ChangeAt Go.RowKit
open Dr
open Go.Proofs.Ytmhfaeddfibohaa.Rg (upd waits wp_region_inv op_at)
set_option linter.unusedVariables false
theorem box_oth {w w' : World} {b c : Nat} {cs : Array Value} (h : Bo.Box w b cs) (k : Only c w w') (hne : ¬ b = c) : Bo.Box w' b cs :=
  ⟨Nat.lt_of_lt_of_le h.lt k.size, fun i => by rw [k.cell (p := ⟨b, i, none⟩) h.lt hne]; exact h.at' i, fun i => by rw [k.frozen (p := ⟨b, i, none⟩) h.lt hne]; exact h.fr i⟩
theorem only_beside {c b : Nat} {a w w' : World} (h : Only c a w) (k : Only b w w') (hb : a.heap.size ≤ b) : Only c a w' :=
  ⟨k.os.trans h.os, k.tape.trans h.tape, k.output.trans h.output, Nat.le_trans h.size k.size, fun i hi hc => (k.block i (Nat.lt_of_lt_of_le hi h.size) (by omega)).trans (h.block i hi hc)⟩
theorem cur_beside {B b c : Nat} {w w' : World} {a : Option Addr} {len cap : Nat} (h : Cur B w c a len cap) (k : Only b w w') (hb : c < b) : Cur B w' c a len cap := h.kept (k.below (B := c + 1) (by omega) (by have := h.lt; omega))
abbrev kl : Array Value := #[.string ⟨#[49]⟩, .string ⟨#[50]⟩, .string ⟨#[51]⟩, .string ⟨#[114, 45, 32, 115, 118, 99, 47]⟩, .string ⟨#[114, 119, 32, 115, 118, 99, 47, 97]⟩, .string ⟨#[]⟩]
abbrev ze : Array Value := #[.string ⟨#[]⟩, .string ⟨#[]⟩, .int .i64 0, .int .i64 0, .bool false]
abbrev x5 (x : Rw) : Array Value := #[.string x.1, .string x.2.1, .int .i64 x.2.2.1, .int .i64 x.2.2.2.1, .bool x.2.2.2.2]
abbrev pu5 (w : World) (b : Nat) (x : Rw) : World := ((((w.setCell ⟨b, 0, none⟩ (.string x.1)).setCell ⟨b, 1, none⟩ (.string x.2.1)).setCell ⟨b, 2, none⟩ (.int .i64 x.2.2.1)).setCell ⟨b, 3, none⟩ (.int .i64 x.2.2.2.1)).setCell ⟨b, 4, none⟩ (.bool x.2.2.2.2)
theorem pu5_box {w : World} {b : Nat} {x0 x1 x2 x3 x4 : Value} {x : Rw} (h : Bo.Box w b #[x0, x1, x2, x3, x4]) : Bo.Box (pu5 w b x) b (x5 x) :=
  ((((h.put (c' := #[.string x.1, x1, x2, x3, x4]) 0 _ (by simp) rfl).put (c' := #[.string x.1, .string x.2.1, x2, x3, x4]) 1 _ (by simp) rfl).put (c' := #[.string x.1, .string x.2.1, .int .i64 x.2.2.1, x3, x4]) 2 _ (by simp) rfl).put (c' := #[.string x.1, .string x.2.1, .int .i64 x.2.2.1, .int .i64 x.2.2.2.1, x4]) 3 _ (by simp) rfl).put (c' := x5 x) 4 _ (by simp) rfl
theorem pu5_only (w : World) (b : Nat) (x : Rw) : Only b w (pu5 w b x) := ((((((Only.refl b w).setCell 0 _).setCell 1 _).setCell 2 _).setCell 3 _).setCell 4 _)
theorem kl_at : ∀ k : Nat, k < 6 → ∃ t : ByteArray, t.size ≤ 40 ∧ kl[k]? = some (.string t) := fun k hk => by
  match k, hk with
  | 0, _ => exact ⟨⟨#[49]⟩, by decide, rfl⟩
  | 1, _ => exact ⟨⟨#[50]⟩, by decide, rfl⟩
  | 2, _ => exact ⟨⟨#[51]⟩, by decide, rfl⟩
  | 3, _ => exact ⟨⟨#[114, 45, 32, 115, 118, 99, 47]⟩, by decide, rfl⟩
  | 4, _ => exact ⟨⟨#[114, 119, 32, 115, 118, 99, 47, 97]⟩, by decide, rfl⟩
  | 5, _ => exact ⟨⟨#[]⟩, by decide, rfl⟩
/-- What holds while the first region goes on, whatever has come up. -/
structure RI (B c g2 len cap : Nat) (ad : Option Addr) (w0 : World) (L : Nat → Bool) (u3 u4 u5 u6 u7 u8 u9 u10 u11 u12 u13 u14 u15 u16 : Value) (w : World) : Prop where
  cur : Cur B w c ad len cap
  only : Only c w0 w
  b2 : Bo.Box w g2 ze
  n2 : c < g2
  wc : c < w.heap.size
  wg : g2 < w.heap.size
  w0s : w0.heap.size ≤ w.heap.size
  o14 : L 14 = true → L 13 = true
  k0 : L 0 = true → u4 = .pointer (some ⟨c, 0, none⟩)
  k1 : L 1 = true → ∃ t : ByteArray, u5 = .string t ∧ t.size ≤ 40
  k2 : L 2 = true → L 5 = false → ∃ bl : Nat, u6 = .slice (some ⟨bl, 0, none⟩) 6 6 ∧ Bo.Box w bl kl ∧ c < bl
  k3 : L 3 = true → u7 = .pointer (some ⟨c, 0, none⟩)
  k4 : L 4 = true → ∃ n : Nat, n < 6 ∧ u8 = .int .i64 n
  k5 : L 5 = true → L 6 = false → ∃ bl n : Nat, n < 6 ∧ u9 = .pointer (some ⟨bl, n, none⟩) ∧ Bo.Box w bl kl ∧ c < bl
  k6 : L 6 = true → ∃ t : ByteArray, u10 = .string t ∧ t.size ≤ 40
  k7 : L 7 = true → u11 = .pointer (some ⟨c, 0, none⟩)
  k8 : L 8 = true → ∃ y : Int, 0 ≤ y ∧ y < 6 ∧ u12 = .int .i64 y
  k9 : L 9 = true → ∃ y : Int, u13 = .int .i64 y
  k10 : L 10 = true → u14 = .pointer (some ⟨c, 0, none⟩)
  k11 : L 11 = true → ∃ z : Int, u15 = .int .i64 z
  k12 : L 12 = true → ∃ x : Rw, u16 = rv x ∧ x.1.size ≤ 40 ∧ x.2.1.size ≤ 40
  k13 : L 13 = true → ∃ g : Nat, u3 = .pointer (some ⟨g, 0, none⟩) ∧ g2 < g ∧ c < g ∧ w0.heap.size ≤ g ∧ (L 14 = false → Bo.Box w g ze) ∧ (L 14 = true → ∃ x : Rw, x.1.size ≤ 40 ∧ x.2.1.size ≤ 40 ∧ Bo.Box w g (x5 x))
def II (B c g2 len cap : Nat) (ad : Option Addr) (w0 : World) (L : Nat → Bool) (a : Act) (w : World) : Prop := ∃ u3 u4 u5 u6 u7 u8 u9 u10 u11 u12 u13 u14 u15 u16 : Value, a = ⟨(.pointer (some ⟨c, 0, none⟩) :: undef :: .pointer (some ⟨g2, 0, none⟩) :: u3 :: u4 :: u5 :: u6 :: u7 :: u8 :: u9 :: u10 :: u11 :: u12 :: u13 :: u14 :: u15 :: u16 :: undef :: undef :: undef :: undef :: undef :: undef :: undef :: undef :: undef :: undef :: undef :: undef :: undef :: undef :: undef :: undef :: undef :: undef :: undef :: undef :: undef :: undef :: undef :: undef :: undef :: undef :: undef :: undef :: undef :: undef :: undef :: undef :: undef :: undef :: undef :: undef :: undef :: undef :: undef :: undef :: undef :: undef :: undef :: undef :: undef :: []).toArray, []⟩ ∧ RI B c g2 len cap ad w0 L u3 u4 u5 u6 u7 u8 u9 u10 u11 u12 u13 u14 u15 u16 w
theorem RI.call {B c g2 len cap : Nat} {ad : Option Addr} {w0 : World} {L : Nat → Bool} {u3 u4 u5 u6 u7 u8 u9 u10 u11 u12 u13 u14 u15 u16 : Value} {w w' : World} (h0 : RI B c g2 len cap ad w0 L u3 u4 u5 u6 u7 u8 u9 u10 u11 u12 u13 u14 u15 u16 w) (hC : Cur B w' c ad len cap) (k : Only c w w') : RI B c g2 len cap ad w0 L u3 u4 u5 u6 u7 u8 u9 u10 u11 u12 u13 u14 u15 u16 w' :=
  ⟨hC, h0.only.trans k, box_oth h0.b2 k (by have := h0.n2; omega), h0.n2, hC.lt, Nat.lt_of_lt_of_le h0.wg k.size, Nat.le_trans h0.w0s k.size, h0.o14, h0.k0, h0.k1, fun h h2 => by obtain ⟨bl, e, hb, hc⟩ := h0.k2 h h2; exact ⟨bl, e, (box_oth hb k (by omega)), hc⟩, h0.k3, h0.k4, fun h h2 => by obtain ⟨bl, n, hn, e, hb, hc⟩ := h0.k5 h h2; exact ⟨bl, n, hn, e, (box_oth hb k (by omega)), hc⟩, h0.k6, h0.k7, h0.k8, h0.k9, h0.k10, h0.k11, h0.k12, fun h => by obtain ⟨g, e, h1, h2, h3, h4, h5⟩ := h0.k13 h; exact ⟨g, e, h1, h2, h3, fun q => (box_oth (h4 q) k (by omega)), fun q => by obtain ⟨x, s1, s2, hb⟩ := h5 q; exact ⟨x, s1, s2, (box_oth hb k (by omega))⟩⟩⟩
theorem RI.alloc {B c g2 len cap : Nat} {ad : Option Addr} {w0 : World} {L : Nat → Bool} {u3 u4 u5 u6 u7 u8 u9 u10 u11 u12 u13 u14 u15 u16 : Value} {w : World} (h0 : RI B c g2 len cap ad w0 L u3 u4 u5 u6 u7 u8 u9 u10 u11 u12 u13 u14 u15 u16 w) (ob : Obj) : RI B c g2 len cap ad w0 L u3 u4 u5 u6 u7 u8 u9 u10 u11 u12 u13 u14 u15 u16 (w.alloc ob) :=
  ⟨h0.cur.kept ((Below.refl _ _).alloc (by have := h0.wc; omega) ob), h0.only.alloc ob, h0.b2.alloc ob, h0.n2, by have := h0.wc; simp; omega, by have := h0.wg; simp; omega, by have := h0.w0s; simp; omega, h0.o14, h0.k0, h0.k1, fun h h2 => by obtain ⟨bl, e, hb, hc⟩ := h0.k2 h h2; exact ⟨bl, e, (hb.alloc ob), hc⟩, h0.k3, h0.k4, fun h h2 => by obtain ⟨bl, n, hn, e, hb, hc⟩ := h0.k5 h h2; exact ⟨bl, n, hn, e, (hb.alloc ob), hc⟩, h0.k6, h0.k7, h0.k8, h0.k9, h0.k10, h0.k11, h0.k12, fun h => by obtain ⟨g, e, h1, h2, h3, h4, h5⟩ := h0.k13 h; exact ⟨g, e, h1, h2, h3, fun q => ((h4 q).alloc ob), fun q => by obtain ⟨x, s1, s2, hb⟩ := h5 q; exact ⟨x, s1, s2, (hb.alloc ob)⟩⟩⟩
theorem RI.s0 {B c g2 len cap : Nat} {ad : Option Addr} {w0 : World} {L : Nat → Bool} {u3 u4 u5 u6 u7 u8 u9 u10 u11 u12 u13 u14 u15 u16 v : Value} {w : World} (h : RI B c g2 len cap ad w0 L u3 u4 u5 u6 u7 u8 u9 u10 u11 u12 u13 u14 u15 u16 w) (hv : v = .pointer (some ⟨c, 0, none⟩)) : RI B c g2 len cap ad w0 (upd L 0) u3 v u5 u6 u7 u8 u9 u10 u11 u12 u13 u14 u15 u16 w :=
  ⟨h.cur, h.only, h.b2, h.n2, h.wc, h.wg, h.w0s, h.o14, (fun _ => hv), (h.k1), (h.k2), (h.k3), (h.k4), (h.k5), (h.k6), (h.k7), (h.k8), (h.k9), (h.k10), (h.k11), (h.k12), (h.k13)⟩
theorem RI.s1 {B c g2 len cap : Nat} {ad : Option Addr} {w0 : World} {L : Nat → Bool} {u3 u4 u5 u6 u7 u8 u9 u10 u11 u12 u13 u14 u15 u16 v : Value} {w : World} (h : RI B c g2 len cap ad w0 L u3 u4 u5 u6 u7 u8 u9 u10 u11 u12 u13 u14 u15 u16 w) (hv : ∃ t : ByteArray, v = .string t ∧ t.size ≤ 40) : RI B c g2 len cap ad w0 (upd L 1) u3 u4 v u6 u7 u8 u9 u10 u11 u12 u13 u14 u15 u16 w :=
  ⟨h.cur, h.only, h.b2, h.n2, h.wc, h.wg, h.w0s, h.o14, (h.k0), (fun _ => hv), (h.k2), (h.k3), (h.k4), (h.k5), (h.k6), (h.k7), (h.k8), (h.k9), (h.k10), (h.k11), (h.k12), (h.k13)⟩
theorem RI.s2 {B c g2 len cap : Nat} {ad : Option Addr} {w0 : World} {L : Nat → Bool} {u3 u4 u5 u6 u7 u8 u9 u10 u11 u12 u13 u14 u15 u16 v : Value} {w : World} (h : RI B c g2 len cap ad w0 L u3 u4 u5 u6 u7 u8 u9 u10 u11 u12 u13 u14 u15 u16 w) (hv : upd L 2 5 = false → ∃ bl : Nat, v = .slice (some ⟨bl, 0, none⟩) 6 6 ∧ Bo.Box w bl kl ∧ c < bl) : RI B c g2 len cap ad w0 (upd L 2) u3 u4 u5 v u7 u8 u9 u10 u11 u12 u13 u14 u15 u16 w :=
  ⟨h.cur, h.only, h.b2, h.n2, h.wc, h.wg, h.w0s, h.o14, (h.k0), (h.k1), (fun _ => hv), (h.k3), (h.k4), (h.k5), (h.k6), (h.k7), (h.k8), (h.k9), (h.k10), (h.k11), (h.k12), (h.k13)⟩
theorem RI.s3 {B c g2 len cap : Nat} {ad : Option Addr} {w0 : World} {L : Nat → Bool} {u3 u4 u5 u6 u7 u8 u9 u10 u11 u12 u13 u14 u15 u16 v : Value} {w : World} (h : RI B c g2 len cap ad w0 L u3 u4 u5 u6 u7 u8 u9 u10 u11 u12 u13 u14 u15 u16 w) (hv : v = .pointer (some ⟨c, 0, none⟩)) : RI B c g2 len cap ad w0 (upd L 3) u3 u4 u5 u6 v u8 u9 u10 u11 u12 u13 u14 u15 u16 w :=
  ⟨h.cur, h.only, h.b2, h.n2, h.wc, h.wg, h.w0s, h.o14, (h.k0), (h.k1), (h.k2), (fun _ => hv), (h.k4), (h.k5), (h.k6), (h.k7), (h.k8), (h.k9), (h.k10), (h.k11), (h.k12), (h.k13)⟩
theorem RI.s4 {B c g2 len cap : Nat} {ad : Option Addr} {w0 : World} {L : Nat → Bool} {u3 u4 u5 u6 u7 u8 u9 u10 u11 u12 u13 u14 u15 u16 v : Value} {w : World} (h : RI B c g2 len cap ad w0 L u3 u4 u5 u6 u7 u8 u9 u10 u11 u12 u13 u14 u15 u16 w) (hv : ∃ n : Nat, n < 6 ∧ v = .int .i64 n) : RI B c g2 len cap ad w0 (upd L 4) u3 u4 u5 u6 u7 v u9 u10 u11 u12 u13 u14 u15 u16 w :=
  ⟨h.cur, h.only, h.b2, h.n2, h.wc, h.wg, h.w0s, h.o14, (h.k0), (h.k1), (h.k2), (h.k3), (fun _ => hv), (h.k5), (h.k6), (h.k7), (h.k8), (h.k9), (h.k10), (h.k11), (h.k12), (h.k13)⟩
theorem RI.s5 {B c g2 len cap : Nat} {ad : Option Addr} {w0 : World} {L : Nat → Bool} {u3 u4 u5 u6 u7 u8 u9 u10 u11 u12 u13 u14 u15 u16 v : Value} {w : World} (h : RI B c g2 len cap ad w0 L u3 u4 u5 u6 u7 u8 u9 u10 u11 u12 u13 u14 u15 u16 w) (hv : upd L 5 6 = false → ∃ bl n : Nat, n < 6 ∧ v = .pointer (some ⟨bl, n, none⟩) ∧ Bo.Box w bl kl ∧ c < bl) : RI B c g2 len cap ad w0 (upd L 5) u3 u4 u5 u6 u7 u8 v u10 u11 u12 u13 u14 u15 u16 w :=
  ⟨h.cur, h.only, h.b2, h.n2, h.wc, h.wg, h.w0s, h.o14, (h.k0), (h.k1), (fun _ q => by cases q), (h.k3), (h.k4), (fun _ => hv), (h.k6), (h.k7), (h.k8), (h.k9), (h.k10), (h.k11), (h.k12), (h.k13)⟩
theorem RI.s6 {B c g2 len cap : Nat} {ad : Option Addr} {w0 : World} {L : Nat → Bool} {u3 u4 u5 u6 u7 u8 u9 u10 u11 u12 u13 u14 u15 u16 v : Value} {w : World} (h : RI B c g2 len cap ad w0 L u3 u4 u5 u6 u7 u8 u9 u10 u11 u12 u13 u14 u15 u16 w) (hv : ∃ t : ByteArray, v = .string t ∧ t.size ≤ 40) : RI B c g2 len cap ad w0 (upd L 6) u3 u4 u5 u6 u7 u8 u9 v u11 u12 u13 u14 u15 u16 w :=
  ⟨h.cur, h.only, h.b2, h.n2, h.wc, h.wg, h.w0s, h.o14, (h.k0), (h.k1), (h.k2), (h.k3), (h.k4), (fun _ q => by cases q), (fun _ => hv), (h.k7), (h.k8), (h.k9), (h.k10), (h.k11), (h.k12), (h.k13)⟩
theorem RI.s7 {B c g2 len cap : Nat} {ad : Option Addr} {w0 : World} {L : Nat → Bool} {u3 u4 u5 u6 u7 u8 u9 u10 u11 u12 u13 u14 u15 u16 v : Value} {w : World} (h : RI B c g2 len cap ad w0 L u3 u4 u5 u6 u7 u8 u9 u10 u11 u12 u13 u14 u15 u16 w) (hv : v = .pointer (some ⟨c, 0, none⟩)) : RI B c g2 len cap ad w0 (upd L 7) u3 u4 u5 u6 u7 u8 u9 u10 v u12 u13 u14 u15 u16 w :=
  ⟨h.cur, h.only, h.b2, h.n2, h.wc, h.wg, h.w0s, h.o14, (h.k0), (h.k1), (h.k2), (h.k3), (h.k4), (h.k5), (h.k6), (fun _ => hv), (h.k8), (h.k9), (h.k10), (h.k11), (h.k12), (h.k13)⟩
theorem RI.s8 {B c g2 len cap : Nat} {ad : Option Addr} {w0 : World} {L : Nat → Bool} {u3 u4 u5 u6 u7 u8 u9 u10 u11 u12 u13 u14 u15 u16 v : Value} {w : World} (h : RI B c g2 len cap ad w0 L u3 u4 u5 u6 u7 u8 u9 u10 u11 u12 u13 u14 u15 u16 w) (hv : ∃ y : Int, 0 ≤ y ∧ y < 6 ∧ v = .int .i64 y) : RI B c g2 len cap ad w0 (upd L 8) u3 u4 u5 u6 u7 u8 u9 u10 u11 v u13 u14 u15 u16 w :=
  ⟨h.cur, h.only, h.b2, h.n2, h.wc, h.wg, h.w0s, h.o14, (h.k0), (h.k1), (h.k2), (h.k3), (h.k4), (h.k5), (h.k6), (h.k7), (fun _ => hv), (h.k9), (h.k10), (h.k11), (h.k12), (h.k13)⟩
theorem RI.s9 {B c g2 len cap : Nat} {ad : Option Addr} {w0 : World} {L : Nat → Bool} {u3 u4 u5 u6 u7 u8 u9 u10 u11 u12 u13 u14 u15 u16 v : Value} {w : World} (h : RI B c g2 len cap ad w0 L u3 u4 u5 u6 u7 u8 u9 u10 u11 u12 u13 u14 u15 u16 w) (hv : ∃ y : Int, v = .int .i64 y) : RI B c g2 len cap ad w0 (upd L 9) u3 u4 u5 u6 u7 u8 u9 u10 u11 u12 v u14 u15 u16 w :=
  ⟨h.cur, h.only, h.b2, h.n2, h.wc, h.wg, h.w0s, h.o14, (h.k0), (h.k1), (h.k2), (h.k3), (h.k4), (h.k5), (h.k6), (h.k7), (h.k8), (fun _ => hv), (h.k10), (h.k11), (h.k12), (h.k13)⟩
theorem RI.s10 {B c g2 len cap : Nat} {ad : Option Addr} {w0 : World} {L : Nat → Bool} {u3 u4 u5 u6 u7 u8 u9 u10 u11 u12 u13 u14 u15 u16 v : Value} {w : World} (h : RI B c g2 len cap ad w0 L u3 u4 u5 u6 u7 u8 u9 u10 u11 u12 u13 u14 u15 u16 w) (hv : v = .pointer (some ⟨c, 0, none⟩)) : RI B c g2 len cap ad w0 (upd L 10) u3 u4 u5 u6 u7 u8 u9 u10 u11 u12 u13 v u15 u16 w :=
  ⟨h.cur, h.only, h.b2, h.n2, h.wc, h.wg, h.w0s, h.o14, (h.k0), (h.k1), (h.k2), (h.k3), (h.k4), (h.k5), (h.k6), (h.k7), (h.k8), (h.k9), (fun _ => hv), (h.k11), (h.k12), (h.k13)⟩
theorem RI.s11 {B c g2 len cap : Nat} {ad : Option Addr} {w0 : World} {L : Nat → Bool} {u3 u4 u5 u6 u7 u8 u9 u10 u11 u12 u13 u14 u15 u16 v : Value} {w : World} (h : RI B c g2 len cap ad w0 L u3 u4 u5 u6 u7 u8 u9 u10 u11 u12 u13 u14 u15 u16 w) (hv : ∃ z : Int, v = .int .i64 z) : RI B c g2 len cap ad w0 (upd L 11) u3 u4 u5 u6 u7 u8 u9 u10 u11 u12 u13 u14 v u16 w :=
  ⟨h.cur, h.only, h.b2, h.n2, h.wc, h.wg, h.w0s, h.o14, (h.k0), (h.k1), (h.k2), (h.k3), (h.k4), (h.k5), (h.k6), (h.k7), (h.k8), (h.k9), (h.k10), (fun _ => hv), (h.k12), (h.k13)⟩
theorem RI.s12 {B c g2 len cap : Nat} {ad : Option Addr} {w0 : World} {L : Nat → Bool} {u3 u4 u5 u6 u7 u8 u9 u10 u11 u12 u13 u14 u15 u16 v : Value} {w : World} (h : RI B c g2 len cap ad w0 L u3 u4 u5 u6 u7 u8 u9 u10 u11 u12 u13 u14 u15 u16 w) (hv : ∃ x : Rw, v = rv x ∧ x.1.size ≤ 40 ∧ x.2.1.size ≤ 40) : RI B c g2 len cap ad w0 (upd L 12) u3 u4 u5 u6 u7 u8 u9 u10 u11 u12 u13 u14 u15 v w :=
  ⟨h.cur, h.only, h.b2, h.n2, h.wc, h.wg, h.w0s, h.o14, (h.k0), (h.k1), (h.k2), (h.k3), (h.k4), (h.k5), (h.k6), (h.k7), (h.k8), (h.k9), (h.k10), (h.k11), (fun _ => hv), (h.k13)⟩
theorem RI.s13 {B c g2 len cap : Nat} {ad : Option Addr} {w0 : World} {L : Nat → Bool} {u3 u4 u5 u6 u7 u8 u9 u10 u11 u12 u13 u14 u15 u16 v : Value} {w : World} (h : RI B c g2 len cap ad w0 L u3 u4 u5 u6 u7 u8 u9 u10 u11 u12 u13 u14 u15 u16 w) (hv : ∃ g : Nat, v = .pointer (some ⟨g, 0, none⟩) ∧ g2 < g ∧ c < g ∧ w0.heap.size ≤ g ∧ (upd L 13 14 = false → Bo.Box w g ze) ∧ (upd L 13 14 = true → ∃ x : Rw, x.1.size ≤ 40 ∧ x.2.1.size ≤ 40 ∧ Bo.Box w g (x5 x))) : RI B c g2 len cap ad w0 (upd L 13) v u4 u5 u6 u7 u8 u9 u10 u11 u12 u13 u14 u15 u16 w :=
  ⟨h.cur, h.only, h.b2, h.n2, h.wc, h.wg, h.w0s, (fun _ => rfl), (h.k0), (h.k1), (h.k2), (h.k3), (h.k4), (h.k5), (h.k6), (h.k7), (h.k8), (h.k9), (h.k10), (h.k11), (h.k12), (fun _ => hv)⟩
/-- n bytes 0, as a text; as cells. -/
def zeroS (n : Nat) : ByteArray := ⟨(List.replicate n (0 : UInt8)).toArray⟩
theorem zeroS_size (n : Nat) : (zeroS n).size = n := by simp [zeroS, ByteArray.size]
theorem infoU8 : (Try.prog.info? 5).map (fun i => (i.zero, i.size, i.bytes)) = some (some (.int .u8 0), 1, 1) := by kernel_rfl
theorem mk_zero (n : Nat) (hn : n ≤ 100) (W : World) : (Instr.makeSlice 22 (.int .i64 (n : Int)) (.int .i64 (n : Int))).run Try.prog W = .ok (.slice (some ⟨W.heap.size, 0, none⟩) n n) (W.alloc (.cells (madeCells #[.int .u8 0] n) 5)) :=
  run_make_row' (P := Try.prog) 22 5 (.int .u8 0) 1 Try.underlying22 infoU8 rfl .i64 .i64 n (by omega) (by omega) W
theorem back_zero {W : World} {bl n : Nat} (h : Bo.Box W bl (madeCells #[.int .u8 0] n)) : (convert 22 9 (.slice (some ⟨bl, 0, none⟩) n n)).run Try.prog W = .ok (.string (zeroS n)) W := by
  have := run_convert_bytes_back (P := Try.prog) W 22 9 5 ⟨bl, 0, none⟩ n (List.replicate n (0 : UInt8)) Try.underlying22 Try.underlying5 Try.underlying9 (fun j hj => by
    have hj' : j < n := by simpa using hj
    have e := h.at' j
    rw [← Array.getElem?_toList, toList_madeCells_one] at e
    simp [hj'] at e
    rw [Go.WideShapes.add_plain, Nat.zero_add, e, List.getElem_replicate]
    rfl)
  rw [List.length_replicate] at this
  exact this
/-- What l11DrawEntry has: its result's block g2, its Entry's block g, its cursor c. -/
structure De (B : Nat) (w wx : World) (c g2 g : Nat) (a : Option Addr) (len cap : Nat) (x : Rw) : Prop where
  b2 : Bo.Box wx g2 ze
  b3 : Bo.Box wx g (x5 x)
  cur : Cur B wx c a len cap
  only : Only c w wx
  n2 : g2 < g
  nc : c < g
  nw : w.heap.size ≤ g
  nd : c < g2
  s1 : x.1.size ≤ 41
  s2 : x.2.1.size ≤ 41
theorem De.call {B c g2 g len cap : Nat} {w wx w' : World} {a : Option Addr} {x : Rw} (h : De B w wx c g2 g a len cap x) (hC : Cur B w' c a len cap) (k : Only c wx w') : De B w w' c g2 g a len cap x :=
  ⟨box_oth h.b2 k (by have := h.nd; omega), box_oth h.b3 k (by have := h.nc; omega), hC, h.only.trans k, h.n2, h.nc, h.nw, h.nd, h.s1, h.s2⟩
theorem De.alloc {B c g2 g len cap : Nat} {w wx : World} {a : Option Addr} {x : Rw} (h : De B w wx c g2 g a len cap x) (ob : Obj) : De B w (wx.alloc ob) c g2 g a len cap x :=
  ⟨h.b2.alloc ob, h.b3.alloc ob, h.cur.kept ((Below.refl _ _).alloc (by have := h.cur.lt; omega) ob), h.only.alloc ob, h.n2, h.nc, h.nw, h.nd, h.s1, h.s2⟩
theorem De.drew {B c g2 g len cap : Nat} {w wx : World} {a : Option Addr} {x : Rw} (h : De B w wx c g2 g a len cap x) : De B w wx.drew c g2 g a len cap x :=
  ⟨h.b2.drew, h.b3.drew, h.cur.drewN 1, h.only.drew, h.n2, h.nc, h.nw, h.nd, h.s1, h.s2⟩
theorem De.set {B c g2 g len cap : Nat} {w wx : World} {a : Option Addr} {x y : Rw} (h : De B w wx c g2 g a len cap x) (i : Nat) (v : Value) (hi : i < 5) (e : (x5 x).setIfInBounds i v = x5 y) (s1 : y.1.size ≤ 41) (s2 : y.2.1.size ≤ 41) : De B w (wx.setCell ⟨g, i, none⟩ v) c g2 g a len cap y :=
  have k : Only g wx (wx.setCell ⟨g, i, none⟩ v) := (Only.refl g wx).setCell i v
  ⟨box_oth h.b2 k (by have := h.n2; omega), h.b3.put i v (by simpa using hi) e, cur_beside h.cur k h.nc, only_beside h.only k h.nw, h.n2, h.nc, h.nw, h.nd, s1, s2⟩
theorem De.last {B c g2 g len cap : Nat} {w wx : World} {a : Option Addr} {x : Rw} (h : De B w wx c g2 g a len cap x) (hw : w.heap.size ≤ g2) : Bo.Box (pu5 wx g2 x) g2 (x5 x) ∧ Cur B (pu5 wx g2 x) c a len cap ∧ Only c w (pu5 wx g2 x) :=
  ⟨pu5_box h.b2, cur_beside h.cur (pu5_only wx g2 x) h.nd, only_beside h.only (pu5_only wx g2 x) hw⟩
theorem RI.s14 {B c g2 len cap : Nat} {ad : Option Addr} {w0 : World} {L : Nat → Bool} {u3 u4 u5 u6 u7 u8 u9 u10 u11 u12 u13 u14 u15 u16 : Value} {w : World} {g : Nat} {x : Rw} (h : RI B c g2 len cap ad w0 L u3 u4 u5 u6 u7 u8 u9 u10 u11 u12 u13 u14 u15 u16 w) (h5 : L 5 = true) (h6 : L 6 = true) (h13 : L 13 = true) (e : u3 = .pointer (some ⟨g, 0, none⟩)) (hg : g2 < g) (hc : c < g) (hw : w0.heap.size ≤ g) (hb : Bo.Box w g ze) (s1 : x.1.size ≤ 40) (s2 : x.2.1.size ≤ 40) : RI B c g2 len cap ad w0 (upd L 14) u3 u4 u5 u6 u7 u8 u9 u10 u11 u12 u13 u14 u15 u16 (pu5 w g x) :=
  have k := pu5_only w g x
  ⟨cur_beside h.cur k hc, only_beside h.only k hw, box_oth h.b2 k (by omega), h.n2, Nat.lt_of_lt_of_le h.wc k.size, Nat.lt_of_lt_of_le h.wg k.size, Nat.le_trans h.w0s k.size, (fun _ => h13), (h.k0), (h.k1), (fun _ q => absurd (h5.symm.trans q) (by decide)), (h.k3), (h.k4), (fun _ q => absurd (h6.symm.trans q) (by decide)), (h.k6), (h.k7), (h.k8), (h.k9), (h.k10), (h.k11), (h.k12), (fun _ => ⟨g, e, hg, hc, hw, fun q => (by cases q), fun _ => ⟨x, s1, s2, pu5_box hb⟩⟩)⟩
structure RJ (B c g2 g len cap : Nat) (ad : Option Addr) (w0 : World) (L : Nat → Bool) (v27 v28 v29 v30 v31 v32 v33 v34 v35 v36 : Value) (w : World) : Prop where
  d : ∃ x, De B w0 w c g2 g ad len cap x
  k0 : L 0 = true → L 1 = false → ∃ bl : Nat, v27 = .slice (some ⟨bl, 0, none⟩) 40 40 ∧ Bo.Box w bl (madeCells #[.int .u8 0] 40) ∧ g < bl
  k1 : L 1 = true → ∃ t : ByteArray, v28 = .string t ∧ t.size ≤ 41
  k2 : L 2 = true → L 3 = false → ∃ bl : Nat, v29 = .slice (some ⟨bl, 0, none⟩) 41 41 ∧ Bo.Box w bl (madeCells #[.int .u8 0] 41) ∧ g < bl
  k3 : L 3 = true → ∃ t : ByteArray, v30 = .string t ∧ t.size ≤ 41
  k4 : L 4 = true → L 7 = false → ∃ (bl : Nat) (t1 t2 : ByteArray), v31 = .slice (some ⟨bl, 0, none⟩) 3 3 ∧ Bo.Box w bl #[.string ⟨#[]⟩, .string t1, .string t2] ∧ g < bl ∧ t1.size ≤ 41 ∧ t2.size ≤ 41
  k5 : L 5 = true → v32 = .pointer (some ⟨c, 0, none⟩)
  k6 : L 6 = true → ∃ n : Nat, n < 3 ∧ v33 = .int .i64 n
  k7 : L 7 = true → L 8 = false → ∃ (bl n : Nat) (t1 t2 : ByteArray), n < 3 ∧ v34 = .pointer (some ⟨bl, n, none⟩) ∧ Bo.Box w bl #[.string ⟨#[]⟩, .string t1, .string t2] ∧ g < bl ∧ t1.size ≤ 41 ∧ t2.size ≤ 41
  k8 : L 8 = true → ∃ t : ByteArray, v35 = .string t ∧ t.size ≤ 41
  k9 : L 9 = true → v36 = .pointer (some ⟨g, 0, none⟩)
def JJ (B c g2 g len cap : Nat) (ad : Option Addr) (w0 : World) (u4 u5 u6 u7 u8 u9 u10 u11 u12 u13 u14 u15 u16 u17 u18 u19 u20 : Value) (L : Nat → Bool) (a : Act) (w : World) : Prop := ∃ v27 v28 v29 v30 v31 v32 v33 v34 v35 v36 : Value, a = ⟨(.pointer (some ⟨c, 0, none⟩) :: undef :: .pointer (some ⟨g2, 0, none⟩) :: .pointer (some ⟨g, 0, none⟩) :: u4 :: u5 :: u6 :: u7 :: u8 :: u9 :: u10 :: u11 :: u12 :: u13 :: u14 :: u15 :: u16 :: u17 :: u18 :: u19 :: u20 :: .pointer (some ⟨c, 0, none⟩) :: .bool true :: .pointer (some ⟨c, 0, none⟩) :: .int .i64 0 :: .bool true :: .bool true :: v27 :: v28 :: v29 :: v30 :: v31 :: v32 :: v33 :: v34 :: v35 :: v36 :: undef :: undef :: undef :: undef :: undef :: undef :: undef :: undef :: undef :: undef :: undef :: undef :: undef :: undef :: undef :: undef :: undef :: undef :: undef :: undef :: undef :: undef :: undef :: undef :: undef :: []).toArray, []⟩ ∧ RJ B c g2 g len cap ad w0 L v27 v28 v29 v30 v31 v32 v33 v34 v35 v36 w
theorem RJ.call {B c g2 g len cap : Nat} {ad : Option Addr} {w0 : World} {L : Nat → Bool} {v27 v28 v29 v30 v31 v32 v33 v34 v35 v36 : Value} {w w' : World} (h0 : RJ B c g2 g len cap ad w0 L v27 v28 v29 v30 v31 v32 v33 v34 v35 v36 w) (hC : Cur B w' c ad len cap) (k : Only c w w') : RJ B c g2 g len cap ad w0 L v27 v28 v29 v30 v31 v32 v33 v34 v35 v36 w' := by
  obtain ⟨x, hx⟩ := h0.d
  have hcg := hx.nc
  exact ⟨⟨x, hx.call hC k⟩, (fun h h2 => by obtain ⟨bl, e, hb, hc⟩ := h0.k0 h h2; exact ⟨bl, e, box_oth hb k (by omega), hc⟩), h0.k1, (fun h h2 => by obtain ⟨bl, e, hb, hc⟩ := h0.k2 h h2; exact ⟨bl, e, box_oth hb k (by omega), hc⟩), h0.k3, (fun h h2 => by obtain ⟨bl, t1, t2, e, hb, hc, s1, s2⟩ := h0.k4 h h2; exact ⟨bl, t1, t2, e, box_oth hb k (by omega), hc, s1, s2⟩), h0.k5, h0.k6, (fun h h2 => by obtain ⟨bl, n, t1, t2, hn, e, hb, hc, s1, s2⟩ := h0.k7 h h2; exact ⟨bl, n, t1, t2, hn, e, box_oth hb k (by omega), hc, s1, s2⟩), h0.k8, h0.k9⟩
theorem RJ.alloc {B c g2 g len cap : Nat} {ad : Option Addr} {w0 : World} {L : Nat → Bool} {v27 v28 v29 v30 v31 v32 v33 v34 v35 v36 : Value} {w : World} (h0 : RJ B c g2 g len cap ad w0 L v27 v28 v29 v30 v31 v32 v33 v34 v35 v36 w) (ob : Obj) : RJ B c g2 g len cap ad w0 L v27 v28 v29 v30 v31 v32 v33 v34 v35 v36 (w.alloc ob) := by
  obtain ⟨x, hx⟩ := h0.d
  exact ⟨⟨x, hx.alloc ob⟩, (fun h h2 => by obtain ⟨bl, e, hb, hc⟩ := h0.k0 h h2; exact ⟨bl, e, hb.alloc ob, hc⟩), h0.k1, (fun h h2 => by obtain ⟨bl, e, hb, hc⟩ := h0.k2 h h2; exact ⟨bl, e, hb.alloc ob, hc⟩), h0.k3, (fun h h2 => by obtain ⟨bl, t1, t2, e, hb, hc, s1, s2⟩ := h0.k4 h h2; exact ⟨bl, t1, t2, e, hb.alloc ob, hc, s1, s2⟩), h0.k5, h0.k6, (fun h h2 => by obtain ⟨bl, n, t1, t2, hn, e, hb, hc, s1, s2⟩ := h0.k7 h h2; exact ⟨bl, n, t1, t2, hn, e, hb.alloc ob, hc, s1, s2⟩), h0.k8, h0.k9⟩
theorem RJ.lt {B c g2 g len cap : Nat} {ad : Option Addr} {w0 : World} {L : Nat → Bool} {v27 v28 v29 v30 v31 v32 v33 v34 v35 v36 : Value} {w : World} (h0 : RJ B c g2 g len cap ad w0 L v27 v28 v29 v30 v31 v32 v33 v34 v35 v36 w) : g < w.heap.size := by
  obtain ⟨x, hx⟩ := h0.d
  exact hx.b3.lt
theorem RJ.s0 {B c g2 g len cap : Nat} {ad : Option Addr} {w0 : World} {L : Nat → Bool} {v27 v28 v29 v30 v31 v32 v33 v34 v35 v36 v : Value} {w : World} (h : RJ B c g2 g len cap ad w0 L v27 v28 v29 v30 v31 v32 v33 v34 v35 v36 w) (hv : upd L 0 1 = false → ∃ bl : Nat, v = .slice (some ⟨bl, 0, none⟩) 40 40 ∧ Bo.Box w bl (madeCells #[.int .u8 0] 40) ∧ g < bl) : RJ B c g2 g len cap ad w0 (upd L 0) v v28 v29 v30 v31 v32 v33 v34 v35 v36 w :=
  ⟨h.d, (fun _ => hv), (h.k1), (h.k2), (h.k3), (h.k4), (h.k5), (h.k6), (h.k7), (h.k8), (h.k9)⟩
theorem RJ.s1 {B c g2 g len cap : Nat} {ad : Option Addr} {w0 : World} {L : Nat → Bool} {v27 v28 v29 v30 v31 v32 v33 v34 v35 v36 v : Value} {w : World} (h : RJ B c g2 g len cap ad w0 L v27 v28 v29 v30 v31 v32 v33 v34 v35 v36 w) (hv : ∃ t : ByteArray, v = .string t ∧ t.size ≤ 41) : RJ B c g2 g len cap ad w0 (upd L 1) v27 v v29 v30 v31 v32 v33 v34 v35 v36 w :=
  ⟨h.d, (fun _ q => by cases q), (fun _ => hv), (h.k2), (h.k3), (h.k4), (h.k5), (h.k6), (h.k7), (h.k8), (h.k9)⟩
theorem RJ.s2 {B c g2 g len cap : Nat} {ad : Option Addr} {w0 : World} {L : Nat → Bool} {v27 v28 v29 v30 v31 v32 v33 v34 v35 v36 v : Value} {w : World} (h : RJ B c g2 g len cap ad w0 L v27 v28 v29 v30 v31 v32 v33 v34 v35 v36 w) (hv : upd L 2 3 = false → ∃ bl : Nat, v = .slice (some ⟨bl, 0, none⟩) 41 41 ∧ Bo.Box w bl (madeCells #[.int .u8 0] 41) ∧ g < bl) : RJ B c g2 g len cap ad w0 (upd L 2) v27 v28 v v30 v31 v32 v33 v34 v35 v36 w :=
  ⟨h.d, (h.k0), (h.k1), (fun _ => hv), (h.k3), (h.k4), (h.k5), (h.k6), (h.k7), (h.k8), (h.k9)⟩
theorem RJ.s3 {B c g2 g len cap : Nat} {ad : Option Addr} {w0 : World} {L : Nat → Bool} {v27 v28 v29 v30 v31 v32 v33 v34 v35 v36 v : Value} {w : World} (h : RJ B c g2 g len cap ad w0 L v27 v28 v29 v30 v31 v32 v33 v34 v35 v36 w) (hv : ∃ t : ByteArray, v = .string t ∧ t.size ≤ 41) : RJ B c g2 g len cap ad w0 (upd L 3) v27 v28 v29 v v31 v32 v33 v34 v35 v36 w :=
  ⟨h.d, (h.k0), (h.k1), (fun _ q => by cases q), (fun _ => hv), (h.k4), (h.k5), (h.k6), (h.k7), (h.k8), (h.k9)⟩
theorem RJ.s4 {B c g2 g len cap : Nat} {ad : Option Addr} {w0 : World} {L : Nat → Bool} {v27 v28 v29 v30 v31 v32 v33 v34 v35 v36 v : Value} {w : World} (h : RJ B c g2 g len cap ad w0 L v27 v28 v29 v30 v31 v32 v33 v34 v35 v36 w) (hv : upd L 4 7 = false → ∃ (bl : Nat) (t1 t2 : ByteArray), v = .slice (some ⟨bl, 0, none⟩) 3 3 ∧ Bo.Box w bl #[.string ⟨#[]⟩, .string t1, .string t2] ∧ g < bl ∧ t1.size ≤ 41 ∧ t2.size ≤ 41) : RJ B c g2 g len cap ad w0 (upd L 4) v27 v28 v29 v30 v v32 v33 v34 v35 v36 w :=
  ⟨h.d, (h.k0), (h.k1), (h.k2), (h.k3), (fun _ => hv), (h.k5), (h.k6), (h.k7), (h.k8), (h.k9)⟩
theorem RJ.s5 {B c g2 g len cap : Nat} {ad : Option Addr} {w0 : World} {L : Nat → Bool} {v27 v28 v29 v30 v31 v32 v33 v34 v35 v36 v : Value} {w : World} (h : RJ B c g2 g len cap ad w0 L v27 v28 v29 v30 v31 v32 v33 v34 v35 v36 w) (hv : v = .pointer (some ⟨c, 0, none⟩)) : RJ B c g2 g len cap ad w0 (upd L 5) v27 v28 v29 v30 v31 v v33 v34 v35 v36 w :=
  ⟨h.d, (h.k0), (h.k1), (h.k2), (h.k3), (h.k4), (fun _ => hv), (h.k6), (h.k7), (h.k8), (h.k9)⟩
theorem RJ.s6 {B c g2 g len cap : Nat} {ad : Option Addr} {w0 : World} {L : Nat → Bool} {v27 v28 v29 v30 v31 v32 v33 v34 v35 v36 v : Value} {w : World} (h : RJ B c g2 g len cap ad w0 L v27 v28 v29 v30 v31 v32 v33 v34 v35 v36 w) (hv : ∃ n : Nat, n < 3 ∧ v = .int .i64 n) : RJ B c g2 g len cap ad w0 (upd L 6) v27 v28 v29 v30 v31 v32 v v34 v35 v36 w :=
  ⟨h.d, (h.k0), (h.k1), (h.k2), (h.k3), (h.k4), (h.k5), (fun _ => hv), (h.k7), (h.k8), (h.k9)⟩
theorem RJ.s7 {B c g2 g len cap : Nat} {ad : Option Addr} {w0 : World} {L : Nat → Bool} {v27 v28 v29 v30 v31 v32 v33 v34 v35 v36 v : Value} {w : World} (h : RJ B c g2 g len cap ad w0 L v27 v28 v29 v30 v31 v32 v33 v34 v35 v36 w) (hv : upd L 7 8 = false → ∃ (bl n : Nat) (t1 t2 : ByteArray), n < 3 ∧ v = .pointer (some ⟨bl, n, none⟩) ∧ Bo.Box w bl #[.string ⟨#[]⟩, .string t1, .string t2] ∧ g < bl ∧ t1.size ≤ 41 ∧ t2.size ≤ 41) : RJ B c g2 g len cap ad w0 (upd L 7) v27 v28 v29 v30 v31 v32 v33 v v35 v36 w :=
  ⟨h.d, (h.k0), (h.k1), (h.k2), (h.k3), (fun _ q => by cases q), (h.k5), (h.k6), (fun _ => hv), (h.k8), (h.k9)⟩
theorem RJ.s8 {B c g2 g len cap : Nat} {ad : Option Addr} {w0 : World} {L : Nat → Bool} {v27 v28 v29 v30 v31 v32 v33 v34 v35 v36 v : Value} {w : World} (h : RJ B c g2 g len cap ad w0 L v27 v28 v29 v30 v31 v32 v33 v34 v35 v36 w) (hv : ∃ t : ByteArray, v = .string t ∧ t.size ≤ 41) : RJ B c g2 g len cap ad w0 (upd L 8) v27 v28 v29 v30 v31 v32 v33 v34 v v36 w :=
  ⟨h.d, (h.k0), (h.k1), (h.k2), (h.k3), (h.k4), (h.k5), (h.k6), (fun _ q => by cases q), (fun _ => hv), (h.k9)⟩
theorem RJ.s9 {B c g2 g len cap : Nat} {ad : Option Addr} {w0 : World} {L : Nat → Bool} {v27 v28 v29 v30 v31 v32 v33 v34 v35 v36 v : Value} {w : World} (h : RJ B c g2 g len cap ad w0 L v27 v28 v29 v30 v31 v32 v33 v34 v35 v36 w) (hv : v = .pointer (some ⟨g, 0, none⟩)) : RJ B c g2 g len cap ad w0 (upd L 9) v27 v28 v29 v30 v31 v32 v33 v34 v35 v w :=
  ⟨h.d, (h.k0), (h.k1), (h.k2), (h.k3), (h.k4), (h.k5), (h.k6), (h.k7), (h.k8), (fun _ => hv)⟩
theorem RJ.s10 {B c g2 g len cap : Nat} {ad : Option Addr} {w0 : World} {L : Nat → Bool} {v27 v28 v29 v30 v31 v32 v33 v34 v35 v36 : Value} {w : World} {t : ByteArray} (h : RJ B c g2 g len cap ad w0 L v27 v28 v29 v30 v31 v32 v33 v34 v35 v36 w) (h1 : L 1 = true) (h3 : L 3 = true) (h7 : L 7 = true) (h8 : L 8 = true) (ht : t.size ≤ 41) : RJ B c g2 g len cap ad w0 (upd L 10) v27 v28 v29 v30 v31 v32 v33 v34 v35 v36 (w.setCell ⟨g, 0, none⟩ (.string t)) := by
  obtain ⟨⟨xk, xv, xt, xn, xg⟩, hx⟩ := h.d
  exact ⟨⟨(t, xv, xt, xn, xg), hx.set 0 (.string t) (by decide) rfl ht hx.s2⟩, (fun _ q => absurd (h1.symm.trans q) (by decide)), (h.k1), (fun _ q => absurd (h3.symm.trans q) (by decide)), (h.k3), (fun _ q => absurd (h7.symm.trans q) (by decide)), (h.k5), (h.k6), (fun _ q => absurd (h8.symm.trans q) (by decide)), (h.k8), (h.k9)⟩
theorem three_at {t1 t2 : ByteArray} (n : Nat) (hn : n < 3) (s1 : t1.size ≤ 41) (s2 : t2.size ≤ 41) : ∃ t : ByteArray, t.size ≤ 41 ∧ (#[.string ⟨#[]⟩, .string t1, .string t2] : Array Value)[n]? = some (.string t) := by
  match n, hn with
  | 0, _ => exact ⟨⟨#[]⟩, (show (0 : Nat) ≤ 41 by decide), rfl⟩
  | 1, _ => exact ⟨t1, s1, rfl⟩
  | 2, _ => exact ⟨t2, s2, rfl⟩
/-- What it leaves. -/
def DrE (B : Nat) (w : World) (c : Nat) (ad : Option Addr) (len cap : Nat) (e : Ending) (w' : World) : Prop := ∃ x : Rw, e = .returned (rv x) ∧ x.1.size ≤ 41 ∧ x.2.1.size ≤ 41 ∧ Cur B w' c ad len cap ∧ Only c w w'
set_option maxRecDepth 100000 in
set_option maxHeartbeats 8000000 in
theorem l11DrawEntry_hid (B c : Nat) (ad : Option Addr) (len cap : Nat) (w : World) (hC : Cur B w c ad len cap) :
    Calls Try.prog 43 #[.pointer (some ⟨c, 0, none⟩)] w (DrE B w c ad len cap) := by
  have hltw := hC.lt
  have B2 := hidIt (Bo.Box.new w ze 30)
  have C := hidIt (hC.kept ((Below.refl (c + 1) w).alloc (by omega) (.cells ze 30)))
  have O := hidIt ((Only.refl c w).alloc (.cells ze 30))
  clear hC
  go_enter Try.func43, Try.ntmps43
  go_wp2_with (fail)
  have hw0 : w.heap.size < (w.alloc (.cells ze 30)).heap.size := by simp
  generalize w.alloc (.cells ze 30) = W0 at *
  obtain ⟨g2, hg2⟩ : ∃ g2, w.heap.size = g2 := ⟨_, rfl⟩
  rw [hg2] at B2 hw0 ⊢
  have H0 : RI B c g2 len cap ad w (fun i => decide (15 ≤ i)) undef undef undef undef undef undef undef undef undef undef undef undef undef undef W0.drew := ⟨C.out.drewN 1, O.out.drew, B2.out.drew, by omega, C.out.lt, hw0, O.out.size, (fun h => by cases h), (fun h => by cases h), (fun h => by cases h), (fun h => by cases h), (fun h => by cases h), (fun h => by cases h), (fun h => by cases h), (fun h => by cases h), (fun h => by cases h), (fun h => by cases h), (fun h => by cases h), (fun h => by cases h), (fun h => by cases h), (fun h => by cases h), (fun h => by cases h)⟩
  refine wp_region_inv (by kernel_rfl) (by kernel_rfl) (II B c g2 len cap ad w) ⟨undef, undef, undef, undef, undef, undef, undef, undef, undef, undef, undef, undef, undef, undef, rfl, H0⟩ ?_ ?_
  case refine_1 =>
    clear H0 C O B2
    intro L a W i hi hI hL hD
    have hcases : i = 0 ∨ i = 1 ∨ i = 2 ∨ i = 3 ∨ i = 4 ∨ i = 5 ∨ i = 6 ∨ i = 7 ∨ i = 8 ∨ i = 9 ∨ i = 10 ∨ i = 11 ∨ i = 12 ∨ i = 13 ∨ i = 14 := by simp at hi; omega
    clear hi
    rcases hcases with rfl | rfl | rfl | rfl | rfl | rfl | rfl | rfl | rfl | rfl | rfl | rfl | rfl | rfl | rfl
    · obtain ⟨u3, u4, u5, u6, u7, u8, u9, u10, u11, u12, u13, u14, u15, u16, rfl, R⟩ := hI
      refine op_at rfl (fun K hK => ?_)
      go_simp
      refine hK _ _ ?_
      exact ⟨_, _, _, _, _, _, _, _, _, _, _, _, _, _, rfl, R.s0 rfl⟩
    · obtain ⟨u3, u4, u5, u6, u7, u8, u9, u10, u11, u12, u13, u14, u15, u16, rfl, R⟩ := hI
      have ep := R.k0 (hD 0 (by kernel_rfl))
      subst ep
      refine op_at rfl (fun K hK => ?_)
      go_simp
      refine (l11DrawKey_any B c ad len cap _ R.cur).mono ?_
      rintro e W1 ⟨t, rfl, ht, hC, hO⟩
      go_simp
      refine hK _ _ ?_
      exact ⟨_, _, _, _, _, _, _, _, _, _, _, _, _, _, rfl, (R.call hC hO).s1 ⟨t, rfl, ht⟩⟩
    · obtain ⟨u3, u4, u5, u6, u7, u8, u9, u10, u11, u12, u13, u14, u15, u16, rfl, R⟩ := hI
      refine op_at rfl (fun K hK => ?_)
      go_simp
      refine hK _ _ ?_
      exact ⟨_, _, _, _, _, _, _, _, _, _, _, _, _, _, rfl, (R.alloc _).s2 (fun _ => ⟨_, rfl, Bo.Box.new W kl 9, R.wc⟩)⟩
    · obtain ⟨u3, u4, u5, u6, u7, u8, u9, u10, u11, u12, u13, u14, u15, u16, rfl, R⟩ := hI
      refine op_at rfl (fun K hK => ?_)
      go_simp
      refine hK _ _ ?_
      exact ⟨_, _, _, _, _, _, _, _, _, _, _, _, _, _, rfl, R.s3 rfl⟩
    · obtain ⟨u3, u4, u5, u6, u7, u8, u9, u10, u11, u12, u13, u14, u15, u16, rfl, R⟩ := hI
      have ep := R.k3 (hD 3 (by kernel_rfl))
      subst ep
      refine op_at rfl (fun K hK => ?_)
      go_simp
      refine (l1Below_any B c ad len cap 6 _ (by decide) R.cur).mono ?_
      rintro e W1 ⟨x, x0, x1, rfl, hC, hO⟩
      go_simp
      refine hK _ _ ?_
      exact ⟨_, _, _, _, _, _, _, _, _, _, _, _, _, _, rfl, (R.call hC hO).s4 ⟨x.toNat, by omega, by rw [Int.toNat_of_nonneg x0]⟩⟩
    · obtain ⟨u3, u4, u5, u6, u7, u8, u9, u10, u11, u12, u13, u14, u15, u16, rfl, R⟩ := hI
      obtain ⟨bl, e6, hb, hcb⟩ := R.k2 (hD 2 (by kernel_rfl)) hL
      subst e6
      obtain ⟨n, hn, e8⟩ := R.k4 (hD 4 (by kernel_rfl))
      subst e8
      have hn1 : (n : Int) < 6 := by omega
      refine op_at rfl (fun K hK => ?_)
      go_simp
      refine hK _ _ ?_
      exact ⟨_, _, _, _, _, _, _, _, _, _, _, _, _, _, rfl, R.s5 (fun _ => ⟨bl, n, hn, rfl, hb, hcb⟩)⟩
    · obtain ⟨u3, u4, u5, u6, u7, u8, u9, u10, u11, u12, u13, u14, u15, u16, rfl, R⟩ := hI
      obtain ⟨bl, n, hn, e9, hb, hcb⟩ := R.k5 (hD 5 (by kernel_rfl)) hL
      subst e9
      obtain ⟨t, ht, et⟩ := kl_at n hn
      have hc1 := hb.c n et
      refine op_at rfl (fun K hK => ?_)
      go_simp
      refine hK _ _ ?_
      exact ⟨_, _, _, _, _, _, _, _, _, _, _, _, _, _, rfl, R.s6 ⟨t, rfl, ht⟩⟩
    · obtain ⟨u3, u4, u5, u6, u7, u8, u9, u10, u11, u12, u13, u14, u15, u16, rfl, R⟩ := hI
      refine op_at rfl (fun K hK => ?_)
      go_simp
      refine hK _ _ ?_
      exact ⟨_, _, _, _, _, _, _, _, _, _, _, _, _, _, rfl, R.s7 rfl⟩
    · obtain ⟨u3, u4, u5, u6, u7, u8, u9, u10, u11, u12, u13, u14, u15, u16, rfl, R⟩ := hI
      have ep := R.k7 (hD 7 (by kernel_rfl))
      subst ep
      refine op_at rfl (fun K hK => ?_)
      go_simp
      refine (l1Below_any B c ad len cap 6 _ (by decide) R.cur).mono ?_
      rintro e W1 ⟨x, x0, x1, rfl, hC, hO⟩
      go_simp
      refine hK _ _ ?_
      exact ⟨_, _, _, _, _, _, _, _, _, _, _, _, _, _, rfl, (R.call hC hO).s8 ⟨x, x0, x1, rfl⟩⟩
    · obtain ⟨u3, u4, u5, u6, u7, u8, u9, u10, u11, u12, u13, u14, u15, u16, rfl, R⟩ := hI
      obtain ⟨y, y0, y1, e12⟩ := R.k8 (hD 8 (by kernel_rfl))
      subst e12
      have hy1 : ¬ 9223372036854775807 < 1 + y := by omega
      have hy2 : ¬ 1 + y < -9223372036854775808 := by omega
      refine op_at rfl (fun K hK => ?_)
      go_simp
      refine hK _ _ ?_
      exact ⟨_, _, _, _, _, _, _, _, _, _, _, _, _, _, rfl, R.s9 ⟨_, rfl⟩⟩
    · obtain ⟨u3, u4, u5, u6, u7, u8, u9, u10, u11, u12, u13, u14, u15, u16, rfl, R⟩ := hI
      refine op_at rfl (fun K hK => ?_)
      go_simp
      refine hK _ _ ?_
      exact ⟨_, _, _, _, _, _, _, _, _, _, _, _, _, _, rfl, R.s10 rfl⟩
    · obtain ⟨u3, u4, u5, u6, u7, u8, u9, u10, u11, u12, u13, u14, u15, u16, rfl, R⟩ := hI
      have ep := R.k10 (hD 10 (by kernel_rfl))
      subst ep
      refine op_at rfl (fun K hK => ?_)
      go_simp
      refine (l1Below_any B c ad len cap 3 _ (by decide) R.cur).mono ?_
      rintro e W1 ⟨x, x0, x1, rfl, hC, hO⟩
      go_simp
      refine hK _ _ ?_
      exact ⟨_, _, _, _, _, _, _, _, _, _, _, _, _, _, rfl, (R.call hC hO).s11 ⟨x, rfl⟩⟩
    · obtain ⟨u3, u4, u5, u6, u7, u8, u9, u10, u11, u12, u13, u14, u15, u16, rfl, R⟩ := hI
      obtain ⟨t, e5, ht⟩ := R.k1 (hD 1 (by kernel_rfl))
      obtain ⟨t2, e10, ht2⟩ := R.k6 (hD 6 (by kernel_rfl))
      obtain ⟨y, e13⟩ := R.k9 (hD 9 (by kernel_rfl))
      obtain ⟨z, e15⟩ := R.k11 (hD 11 (by kernel_rfl))
      subst e5 e10 e13 e15
      refine op_at rfl (fun K hK => ?_)
      go_simp
      refine hK _ _ ?_
      exact ⟨_, _, _, _, _, _, _, _, _, _, _, _, _, _, rfl, R.s12 ⟨(t, t2, y, z, false), rfl, ht, ht2⟩⟩
    · obtain ⟨u3, u4, u5, u6, u7, u8, u9, u10, u11, u12, u13, u14, u15, u16, rfl, R⟩ := hI
      refine op_at rfl (fun K hK => ?_)
      go_simp
      refine hK _ _ ?_
      exact ⟨_, _, _, _, _, _, _, _, _, _, _, _, _, _, rfl, (R.alloc _).s13 ⟨_, rfl, R.wg, R.wc, R.w0s, fun _ => Bo.Box.new W ze 30, fun q => absurd (hL.symm.trans (R.o14 q)) (by decide)⟩⟩
    · obtain ⟨u3, u4, u5, u6, u7, u8, u9, u10, u11, u12, u13, u14, u15, u16, rfl, R⟩ := hI
      obtain ⟨g, e3, hg, hc, hw, hb, _⟩ := R.k13 (hD 13 (by kernel_rfl))
      obtain ⟨x, e16, s1, s2⟩ := R.k12 (hD 12 (by kernel_rfl))
      have hb := hb hL
      subst e3 e16
      obtain ⟨x0, x1, x2, x3, x4⟩ := x
      have q0 := hb.c 0 rfl
      have q1 := hb.c 1 rfl
      have q2 := hb.c 2 rfl
      have q3 := hb.c 3 rfl
      have q4 := hb.c 4 rfl
      have fz := hb.fr
      refine op_at rfl (fun K hK => ?_)
      go_simp
      refine hK _ _ ?_
      exact ⟨_, _, _, _, _, _, _, _, _, _, _, _, _, _, rfl, R.s14 (x := (x0, x1, x2, x3, x4)) (hD 5 (by kernel_rfl)) (hD 6 (by kernel_rfl)) (hD 13 (by kernel_rfl)) rfl hg hc hw hb s1 s2⟩
  case refine_2 =>
    clear H0 C O B2
    intro L a W hI hall
    obtain ⟨u3, u4, u5, u6, u7, u8, u9, u10, u11, u12, u13, u14, u15, u16, rfl, R⟩ := hI
    obtain ⟨g, e3, hg, hcg, hwg, _, hx⟩ := R.k13 (hall 13)
    obtain ⟨x, s1, s2, hb⟩ := hx (hall 14)
    subst e3
    have HD : Hid (De B w W c g2 g ad len cap x) := hidIt ⟨R.b2, hb, R.cur, R.only, hg, hcg, hwg, R.n2, by omega, by omega⟩
    clear R hall hx hb s1 s2 hg hcg hwg
    go_upto_if 18 with (go_at_call 56; refine (l1Once_any B c ad len cap 6 _ (by decide) HD.out.cur).mono ?_; rintro e W1 ⟨b1, rfl, hC1, hO1⟩; replace HD := hidIt (HD.out.call hC1 hO1); clear hC1 hO1)
    go_cut [] from 17 to 20 (fun wq => ∃ x, Hid (De B w wq c g2 g ad len cap x))
    case first =>
      obtain ⟨xk, xv, xt, xn, xg⟩ := x
      cases b1 with
      | false =>
        go_wp2_with (fail)
        go_meet
        case rel => exact ⟨_, HD⟩
      | true =>
        have q4 := HD.out.b3.c 4 rfl
        have q1 := HD.out.b3.c 1 rfl
        have fz := HD.out.b3.fr
        have HD2 := hidIt ((HD.out.set (y := (xk, xv, xt, xn, true)) 4 (.bool true) (by decide) rfl HD.out.s1 HD.out.s2).set (y := (xk, ⟨#[]⟩, xt, xn, true)) 1 (.string ⟨#[]⟩) (by decide) rfl HD.out.s1 (show (0 : Nat) ≤ 41 by decide))
        go_wp2_with (fail)
        go_meet
        case rel => exact ⟨_, HD2⟩
    case rest =>
      obtain ⟨x, HD⟩ := hcut
      go_upto_if 22 with (go_at_call 56; refine (l1Once_any B c ad len cap 30 _ (by decide) HD.out.cur).mono ?_; rintro e W2 ⟨b2, rfl, hC1, hO1⟩; replace HD := hidIt (HD.out.call hC1 hO1); clear hC1 hO1)
      go_cut [] from 21 to 60 (fun wq => ∃ x, Hid (De B w wq c g2 g ad len cap x))
      case first =>
        obtain ⟨xk, xv, xt, xn, xg⟩ := x
        cases b2 with
        | false =>
          go_wp2_with (fail)
          go_meet
          case rel => exact ⟨_, HD⟩
        | true =>
          go_wp2_with (fail)
          refine (l1Below_any B c ad len cap 4 _ (by decide) HD.out.cur).mono ?_
          rintro e W3 ⟨y, y0, y1, rfl, hC3, hO3⟩
          replace HD := hidIt (HD.out.call hC3 hO3)
          clear hC3 hO3
          have hy : y = 0 ∨ y = 1 ∨ y = 2 ∨ y = 3 := by omega
          clear y0 y1
          rcases hy with rfl | rfl | rfl | rfl
          · go_wp2_with (fail)
            have H0 : RJ B c g2 g len cap ad w (fun i => decide (11 ≤ i)) undef undef undef undef undef undef undef undef undef undef W3.drew := ⟨⟨_, HD.out.drew⟩, (fun h => by cases h), (fun h => by cases h), (fun h => by cases h), (fun h => by cases h), (fun h => by cases h), (fun h => by cases h), (fun h => by cases h), (fun h => by cases h), (fun h => by cases h), (fun h => by cases h)⟩
            refine wp_region_inv (by kernel_rfl) (by kernel_rfl) (JJ B c g2 g len cap ad w u4 u5 u6 u7 u8 u9 u10 u11 u12 u13 u14 u15 u16 u17 u18 u19 u20) ⟨undef, undef, undef, undef, undef, undef, undef, undef, undef, undef, rfl, H0⟩ ?_ ?_
            case refine_1 =>
              clear H0 HD
              intro L a W i hi hI hL hD
              have hcases : i = 0 ∨ i = 1 ∨ i = 2 ∨ i = 3 ∨ i = 4 ∨ i = 5 ∨ i = 6 ∨ i = 7 ∨ i = 8 ∨ i = 9 ∨ i = 10 := by simp at hi; omega
              clear hi
              rcases hcases with rfl | rfl | rfl | rfl | rfl | rfl | rfl | rfl | rfl | rfl | rfl
              · obtain ⟨v27, v28, v29, v30, v31, v32, v33, v34, v35, v36, rfl, R⟩ := hI
                have hmk := mk_zero 40 (by decide) W
                skip
                refine op_at rfl (fun K hK => ?_)
                go_simp
                refine hK _ _ ?_
                exact ⟨_, _, _, _, _, _, _, _, _, _, rfl, (R.alloc _).s0 (fun _ => ⟨_, rfl, Bo.Box.new W (madeCells #[.int .u8 0] 40) 5, R.lt⟩)⟩
              · obtain ⟨v27, v28, v29, v30, v31, v32, v33, v34, v35, v36, rfl, R⟩ := hI
                obtain ⟨bl, e, hb, hcb⟩ := R.k0 (hD 0 (by kernel_rfl)) hL
                subst e
                have hcv := back_zero hb
                have hzs := zeroS_size 40
                generalize zeroS 40 = zs at hcv hzs
                refine op_at rfl (fun K hK => ?_)
                go_simp
                refine hK _ _ ?_
                exact ⟨_, _, _, _, _, _, _, _, _, _, rfl, R.s1 ⟨zs, rfl, by omega⟩⟩
              · obtain ⟨v27, v28, v29, v30, v31, v32, v33, v34, v35, v36, rfl, R⟩ := hI
                have hmk := mk_zero 41 (by decide) W
                skip
                refine op_at rfl (fun K hK => ?_)
                go_simp
                refine hK _ _ ?_
                exact ⟨_, _, _, _, _, _, _, _, _, _, rfl, (R.alloc _).s2 (fun _ => ⟨_, rfl, Bo.Box.new W (madeCells #[.int .u8 0] 41) 5, R.lt⟩)⟩
              · obtain ⟨v27, v28, v29, v30, v31, v32, v33, v34, v35, v36, rfl, R⟩ := hI
                obtain ⟨bl, e, hb, hcb⟩ := R.k2 (hD 2 (by kernel_rfl)) hL
                subst e
                have hcv := back_zero hb
                have hzs := zeroS_size 41
                generalize zeroS 41 = zs at hcv hzs
                refine op_at rfl (fun K hK => ?_)
                go_simp
                refine hK _ _ ?_
                exact ⟨_, _, _, _, _, _, _, _, _, _, rfl, R.s3 ⟨zs, rfl, by omega⟩⟩
              · obtain ⟨v27, v28, v29, v30, v31, v32, v33, v34, v35, v36, rfl, R⟩ := hI
                obtain ⟨t1, e1, ht1⟩ := R.k1 (hD 1 (by kernel_rfl))
                obtain ⟨t2, e2, ht2⟩ := R.k3 (hD 3 (by kernel_rfl))
                subst e1 e2
                refine op_at rfl (fun K hK => ?_)
                go_simp
                refine hK _ _ ?_
                exact ⟨_, _, _, _, _, _, _, _, _, _, rfl, (R.alloc _).s4 (fun _ => ⟨_, t1, t2, rfl, Bo.Box.new W #[.string ⟨#[]⟩, .string t1, .string t2] 9, R.lt, ht1, ht2⟩)⟩
              · obtain ⟨v27, v28, v29, v30, v31, v32, v33, v34, v35, v36, rfl, R⟩ := hI
                refine op_at rfl (fun K hK => ?_)
                go_simp
                refine hK _ _ ?_
                exact ⟨_, _, _, _, _, _, _, _, _, _, rfl, R.s5 rfl⟩
              · obtain ⟨v27, v28, v29, v30, v31, v32, v33, v34, v35, v36, rfl, R⟩ := hI
                have ep := R.k5 (hD 5 (by kernel_rfl))
                subst ep
                obtain ⟨xx, hxx⟩ := R.d
                refine op_at rfl (fun K hK => ?_)
                go_simp
                refine (l1Below_any B c ad len cap 3 _ (by decide) hxx.cur).mono ?_
                rintro e W1 ⟨x, x0, x1, rfl, hC, hO⟩
                go_simp
                refine hK _ _ ?_
                exact ⟨_, _, _, _, _, _, _, _, _, _, rfl, (R.call hC hO).s6 ⟨x.toNat, by omega, by rw [Int.toNat_of_nonneg x0]⟩⟩
              · obtain ⟨v27, v28, v29, v30, v31, v32, v33, v34, v35, v36, rfl, R⟩ := hI
                obtain ⟨bl, t1, t2, e, hb, hgb, s1, s2⟩ := R.k4 (hD 4 (by kernel_rfl)) hL
                obtain ⟨n, hn, e2⟩ := R.k6 (hD 6 (by kernel_rfl))
                subst e e2
                have hn1 : (n : Int) < 3 := by omega
                refine op_at rfl (fun K hK => ?_)
                go_simp
                refine hK _ _ ?_
                exact ⟨_, _, _, _, _, _, _, _, _, _, rfl, R.s7 (fun _ => ⟨bl, n, t1, t2, hn, rfl, hb, hgb, s1, s2⟩)⟩
              · obtain ⟨v27, v28, v29, v30, v31, v32, v33, v34, v35, v36, rfl, R⟩ := hI
                obtain ⟨bl, n, t1, t2, hn, e, hb, hgb, s1, s2⟩ := R.k7 (hD 7 (by kernel_rfl)) hL
                subst e
                obtain ⟨t, ht, et⟩ : ∃ t : ByteArray, t.size ≤ 41 ∧ (#[.string ⟨#[]⟩, .string t1, .string t2] : Array Value)[n]? = some (.string t) := three_at n hn s1 s2
                have hc1 := hb.c n et
                refine op_at rfl (fun K hK => ?_)
                go_simp
                refine hK _ _ ?_
                exact ⟨_, _, _, _, _, _, _, _, _, _, rfl, R.s8 ⟨t, rfl, ht⟩⟩
              · obtain ⟨v27, v28, v29, v30, v31, v32, v33, v34, v35, v36, rfl, R⟩ := hI
                refine op_at rfl (fun K hK => ?_)
                go_simp
                refine hK _ _ ?_
                exact ⟨_, _, _, _, _, _, _, _, _, _, rfl, R.s9 rfl⟩
              · obtain ⟨v27, v28, v29, v30, v31, v32, v33, v34, v35, v36, rfl, R⟩ := hI
                have e9 := R.k9 (hD 9 (by kernel_rfl))
                obtain ⟨t, e8, ht⟩ := R.k8 (hD 8 (by kernel_rfl))
                subst e9 e8
                obtain ⟨⟨y0, y1, y2, y3, y4⟩, hy⟩ := R.d
                have q0 := hy.b3.c 0 rfl
                have fz := hy.b3.fr
                refine op_at rfl (fun K hK => ?_)
                go_simp
                refine hK _ _ ?_
                exact ⟨_, _, _, _, _, _, _, _, _, _, rfl, R.s10 (hD 1 (by kernel_rfl)) (hD 3 (by kernel_rfl)) (hD 7 (by kernel_rfl)) (hD 8 (by kernel_rfl)) ht⟩
            case refine_2 =>
              clear H0 HD
              intro L a W hI hall
              obtain ⟨v27, v28, v29, v30, v31, v32, v33, v34, v35, v36, rfl, R⟩ := hI
              obtain ⟨xz, hz⟩ := R.d
              have HZ := hidIt hz
              clear R hall hz
              go_wp2_with (fail)
              go_meet
              case rel => exact ⟨_, HZ⟩
          · go_wp2_with (fail)
            refine (l1Below_any B c ad len cap 2 _ (by decide) HD.out.cur).mono ?_
            rintro e W4 ⟨z, z0, z1, rfl, hC4, hO4⟩
            replace HD := hidIt (HD.out.call hC4 hO4)
            clear hC4 hO4
            obtain ⟨n, hn, ez⟩ : ∃ n : Nat, n ≤ 41 ∧ 40 + z = (n : Int) := ⟨(40 + z).toNat, by omega, by omega⟩
            have hmk := mk_zero n (by omega) W4
            rw [← ez] at hmk
            have hcv := back_zero (Bo.Box.new W4 (madeCells #[.int .u8 0] n) 5)
            have hz2 : ¬ 9223372036854775807 < 40 + z := by omega
            have hz3 : ¬ 40 + z < -9223372036854775808 := by omega
            have hD4 := HD.out.alloc (.cells (madeCells #[.int .u8 0] n) 5)
            have q1 := hD4.b3.c 1 rfl
            have fz := hD4.b3.fr
            have HD4 := hidIt (hD4.set (y := (xk, zeroS n, xt, xn, xg)) 1 (.string (zeroS n)) (by decide) rfl HD.out.s1 (by rw [zeroS_size]; exact hn))
            clear hD4 ez z0 z1
            generalize zeroS n = zs at hcv HD4
            go_wp2_with (fail)
            go_meet
            case rel => exact ⟨_, HD4⟩
          · go_wp2_with (fail)
            have HDa := hidIt (HD.out.alloc (.cells #[.int .i64 0, .int .i64 1000000, .int .i64 1000001] 2))
            have LB := hidIt (Bo.Box.new W3 #[.int .i64 0, .int .i64 1000000, .int .i64 1000001] 2)
            have hcl : c < W3.heap.size := HD.out.cur.lt
            refine (l1Below_any B c ad len cap 3 _ (by decide) HDa.out.cur).mono ?_
            rintro e W4 ⟨z, z0, z1, rfl, hC4, hO4⟩
            have LB4 := hidIt (box_oth LB.out hO4 (by omega))
            have HD4 := hidIt (HDa.out.call hC4 hO4)
            clear hC4 hO4 HD HDa LB
            obtain ⟨v, hv⟩ : ∃ v : Int, (#[.int .i64 0, .int .i64 1000000, .int .i64 1000001] : Array Value)[z.toNat]? = some (.int .i64 v) := by
              have hz : z = 0 ∨ z = 1 ∨ z = 2 := by omega
              rcases hz with rfl | rfl | rfl
              · exact ⟨0, rfl⟩
              · exact ⟨1000000, rfl⟩
              · exact ⟨1000001, rfl⟩
            obtain ⟨n, rfl⟩ := Int.eq_ofNat_of_zero_le z0
            have hn3 : (n : Int) < 3 := by omega
            have ql := LB4.out.c n hv
            have q2 := HD4.out.b3.c 2 rfl
            have fz := HD4.out.b3.fr
            have HD5 := hidIt (HD4.out.set (y := (xk, xv, v, xn, xg)) 2 (.int .i64 v) (by decide) rfl HD4.out.s1 HD4.out.s2)
            clear z0 z1 hv
            go_wp2_with (fail)
            go_meet
            case rel => exact ⟨_, HD5⟩
          · go_wp2_with (fail)
            have HDa := hidIt (HD.out.alloc (.cells #[.int .i64 (-1), .int .i64 7, .int .i64 8] 2))
            have LB := hidIt (Bo.Box.new W3 #[.int .i64 (-1), .int .i64 7, .int .i64 8] 2)
            have hcl : c < W3.heap.size := HD.out.cur.lt
            refine (l1Below_any B c ad len cap 3 _ (by decide) HDa.out.cur).mono ?_
            rintro e W4 ⟨z, z0, z1, rfl, hC4, hO4⟩
            have LB4 := hidIt (box_oth LB.out hO4 (by omega))
            have HD4 := hidIt (HDa.out.call hC4 hO4)
            clear hC4 hO4 HD HDa LB
            obtain ⟨v, hv⟩ : ∃ v : Int, (#[.int .i64 (-1), .int .i64 7, .int .i64 8] : Array Value)[z.toNat]? = some (.int .i64 v) := by
              have hz : z = 0 ∨ z = 1 ∨ z = 2 := by omega
              rcases hz with rfl | rfl | rfl
              · exact ⟨-1, rfl⟩
              · exact ⟨7, rfl⟩
              · exact ⟨8, rfl⟩
            obtain ⟨n, rfl⟩ := Int.eq_ofNat_of_zero_le z0
            have hn3 : (n : Int) < 3 := by omega
            have ql := LB4.out.c n hv
            have q3 := HD4.out.b3.c 3 rfl
            have fz := HD4.out.b3.fr
            have HD5 := hidIt (HD4.out.set (y := (xk, xv, xt, v, xg)) 3 (.int .i64 v) (by decide) rfl HD4.out.s1 HD4.out.s2)
            clear z0 z1 hv
            go_wp2_with (fail)
            go_meet
            case rel => exact ⟨_, HD5⟩
      case rest =>
        obtain ⟨x, HD⟩ := hcut
        obtain ⟨xk, xv, xt, xn, xg⟩ := x
        have HL := hidIt (HD.out.last (by omega))
        have HS := hidIt (And.intro HD.out.s1 HD.out.s2)
        have q0 := HD.out.b3.c 0 rfl
        have q1 := HD.out.b3.c 1 rfl
        have q2 := HD.out.b3.c 2 rfl
        have q3 := HD.out.b3.c 3 rfl
        have q4 := HD.out.b3.c 4 rfl
        have r0 := HD.out.b2.c 0 rfl
        have r1 := HD.out.b2.c 1 rfl
        have r2 := HD.out.b2.c 2 rfl
        have r3 := HD.out.b2.c 3 rfl
        have r4 := HD.out.b2.c 4 rfl
        have fz := HD.out.b2.fr
        clear HD
        simp only [pu5] at HL
        go_wp2_with (fail)
        generalize ((((wc.setCell ⟨g2, 0, none⟩ (.string xk)).setCell ⟨g2, 1, none⟩ (.string xv)).setCell ⟨g2, 2, none⟩ (.int .i64 xt)).setCell ⟨g2, 3, none⟩ (.int .i64 xn)).setCell ⟨g2, 4, none⟩ (.bool xg) = w9 at HL ⊢
        have t0 := HL.out.1.c 0 rfl
        have t1 := HL.out.1.c 1 rfl
        have t2 := HL.out.1.c 2 rfl
        have t3 := HL.out.1.c 3 rfl
        have t4 := HL.out.1.c 4 rfl
        refine bodyPost_ret (v := .agg #[.string xk, .string xv, .int .i64 xt, .int .i64 xn, .bool xg]) (by simp [results, Try.results43, go_sem, t0, t1, t2, t3, t4]) rfl ⟨(xk, xv, xt, xn, xg), rfl, HS.out.1, HS.out.2, HL.out.2.1, HL.out.2.2⟩
theorem l11DrawEntry_any (B c : Nat) (ad : Option Addr) (len cap : Nat) (w : World) (hC : Cur B w c ad len cap) :
    Calls Try.prog 43 #[.pointer (some ⟨c, 0, none⟩)] w fun e w' => ∃ x : Rw, e = .returned (rv x) ∧ x.1.size ≤ 41 ∧ x.2.1.size ≤ 41 ∧ Cur B w' c ad len cap ∧ Only c w w' := l11DrawEntry_hid B c ad len cap w hC
end Go.Proofs.Ytmhfaeddfibohaa.En
