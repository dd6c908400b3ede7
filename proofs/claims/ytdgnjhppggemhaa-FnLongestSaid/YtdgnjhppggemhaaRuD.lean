/-
  What l14Draw answers, whatever the bytes: at most 19 Rules in a row of their own, each Prefix of at most 41 bytes.
-/
import Derived.Test.YtdgnjhppggemhaaRuS
import Derived.Test.YtdgnjhppggemhaaDraw
import Derived.Test.YtdgnjhppggemhaaBoxM
import Derived.Test.YtdgnjhppggemhaaRegI
import Derived.Deep.RegionHeld3
import Derived.Laws.AppendOwn
namespace Go.Proofs.Ytdgnjhppggemhaa.Ru
open Go.ChangeShapes Go.WideShapes Go.ChangeAt Go.RowKit
open Dr
open Go.Proofs.Ytdgnjhppggemhaa.Rg (upd waits wp_region_inv op_at)
set_option linter.unusedVariables false
/-- The seven Prefixes that are drawn from. -/
def seven : Array Value := #[.string ⟨#[]⟩, .string ⟨#[97, 99, 108, 47]⟩, .string ⟨#[115, 118, 99, 47]⟩, .string ⟨#[115, 118, 99, 47, 97]⟩, .string ⟨#[115, 118, 99, 47, 98]⟩, .string ⟨#[115, 118, 99, 47, 119, 101, 98]⟩, .string ⟨#[120]⟩]
theorem seven_at {i : Nat} (h : i < 7) : ∃ x : ByteArray, seven[i]? = some (.string x) ∧ x.size ≤ 41 := by
  match i, h with
  | 0, _ => exact ⟨_, rfl, by decide⟩
  | 1, _ => exact ⟨_, rfl, by decide⟩
  | 2, _ => exact ⟨_, rfl, by decide⟩
  | 3, _ => exact ⟨_, rfl, by decide⟩
  | 4, _ => exact ⟨_, rfl, by decide⟩
  | 5, _ => exact ⟨_, rfl, by decide⟩
  | 6, _ => exact ⟨_, rfl, by decide⟩
/-- Where l14Draw stands: block g holds the seven, the row lies behind it. -/
structure Da (B : Nat) (w wx : World) (c : Nat) (ad : Option Addr) (len cap : Nat) (v : Value) (L : List Rw) : Prop where
  own : Own wx (w.heap.size + 1) v L
  tex : ∀ i, wx.cell? ⟨w.heap.size, i, none⟩ = seven[i]?
  lt : w.heap.size < wx.heap.size
  cur : Cur B wx c ad len cap
  only : Only c w wx
  sz : ∀ i, i < L.length → (rat L i).1.size ≤ 41
theorem Da.call {B c len cap : Nat} {w wx w' : World} {ad : Option Addr} {v : Value} {L : List Rw} (h : Da B w wx c ad len cap v L) (hC : Cur B w' c ad len cap) (k : Only c wx w') (hc : c < w.heap.size) : Da B w w' c ad len cap v L :=
  ⟨h.own.only k (.inl (by omega)), fun i => by rw [World.cell?_of_block (w := wx) (k.block w.heap.size h.lt (by omega))]; exact h.tex i, Nat.lt_of_lt_of_le h.lt k.size, hC, h.only.trans k, h.sz⟩
theorem Da.low {B c len cap : Nat} {w wx w' : World} {ad : Option Addr} {v : Value} {L : List Rw} (h : Da B w wx c ad len cap v L) (k : Below wx.heap.size wx w') : Da B w w' c ad len cap v L :=
  ⟨h.own.kept k, fun i => by rw [k.cell (by simpa using h.lt)]; exact h.tex i, Nat.lt_of_lt_of_le h.lt k.size, h.cur.kept (k.mono (by have := h.cur.lt; omega)), h.only.trans (Only.of_below k), h.sz⟩
theorem Da.grown {B c len cap : Nat} {w wx w' : World} {ad : Option Addr} {v v' : Value} {L M : List Rw} (h : Da B w wx c ad len cap v L) (hc : c < w.heap.size) (o : Own w' (w.heap.size + 1) v' M) (g : wx.grownBy w' v.ownBlock) (hz : ∀ i, i < M.length → (rat M i).1.size ≤ 41) : Da B w w' c ad len cap v' M := by
  have kk := grown_below h.own g (Nat.le_refl _) (by have := h.lt; omega)
  exact ⟨o, fun i => by rw [kk.cell (by simp)]; exact h.tex i, Nat.lt_of_lt_of_le h.lt kk.size, h.cur.kept (kk.mono (by omega)), ⟨kk.os.trans h.only.os, kk.tape.trans h.only.tape, kk.output.trans h.only.output, Nat.le_trans h.only.size kk.size, fun i hi hne => (kk.block i (by omega)).trans (h.only.block i hi hne)⟩, hz⟩
theorem sz_more {L : List Rw} {x : Rw} (h : ∀ i, i < L.length → (rat L i).1.size ≤ 41) (hx : x.1.size ≤ 41) : ∀ i, i < (L ++ [x]).length → (rat (L ++ [x]) i).1.size ≤ 41 := by
  intro i hi
  rw [rat_at hi]
  rcases Nat.lt_or_ge i L.length with g | g
  · rw [List.getElem_append_left g, ← rat_at g]; exact h i g
  · rw [List.getElem_append_right g]; simpa using hx
theorem fresh_at {w : World} {k : Nat} (h : w.heap.size = k) (x : Rw) (T : TypeId) : ∀ j u, (rcells [x])[j]? = some u → (w.alloc (.cells (rc x) T)).cell? ((⟨k, 0, none⟩ : Addr).add j) = some u := by subst h; exact fresh w x T
/-- n bytes 0, as a text; as cells. -/
def zeroS (n : Nat) : ByteArray := ⟨(List.replicate n (0 : UInt8)).toArray⟩
theorem zeroS_size (n : Nat) : (zeroS n).size = n := by simp [zeroS, ByteArray.size]
theorem infoU8 : (Try.prog.info? 5).map (fun i => (i.zero, i.size, i.bytes)) = some (some (.int .u8 0), 1, 1) := by kernel_rfl
theorem mk_zero (W : World) : (Instr.makeSlice 22 (.int .i64 41) (.int .i64 41)).run Try.prog W = .ok (.slice (some ⟨W.heap.size, 0, none⟩) 41 41) (W.alloc (.cells (madeCells #[.int .u8 0] 41) 5)) :=
  run_make_row' (P := Try.prog) 22 5 (.int .u8 0) 1 Try.underlying22 infoU8 rfl .i64 .i64 41 (by omega) (by omega) W
theorem back_zero {W : World} {bl n : Nat} (h : Bo.Box W bl (madeCells #[.int .u8 0] n)) : (convert 22 9 (.slice (some ⟨bl, 0, none⟩) n n)).run Try.prog W = .ok (.string (zeroS n)) W := by
  have := run_convert_bytes_back (P := Try.prog) W 22 9 5 ⟨bl, 0, none⟩ n (List.replicate n (0 : UInt8)) Try.underlying22 Try.underlying5 Try.underlying9 (fun j hj => by
    have hj' : j < n := by simpa using hj
    have e := h.at' j
    rw [← Array.getElem?_toList, toList_madeCells_one] at e
    simp [hj'] at e
    rw [Go.WideShapes.add_plain, Nat.zero_add, e, List.getElem_replicate]
    rfl)
  rw [List.length_replicate] at this
  exact this
abbrev four : Array Value := #[.string ⟨#[32]⟩, .string ⟨#[121]⟩, .string ⟨#[97]⟩, .string (zeroS 41)]
theorem four_at {i : Nat} (h : i < 4) : ∃ x : ByteArray, four[i]? = some (.string x) ∧ x.size ≤ 41 := by
  match i, h with
  | 0, _ => exact ⟨_, rfl, by decide⟩
  | 1, _ => exact ⟨_, rfl, by decide⟩
  | 2, _ => exact ⟨_, rfl, by decide⟩
  | 3, _ => exact ⟨_, rfl, by rw [zeroS_size]; decide⟩
theorem box_oth {w w' : World} {b d : Nat} {c : Array Value} (h : Bo.Box w b c) (k : Only d w w') (e : b ≠ d) : Bo.Box w' b c :=
  ⟨Nat.lt_of_lt_of_le h.lt k.size, fun i => by rw [World.cell?_of_block (w := w) (k.block b h.lt e)]; exact h.at' i, fun i => by rw [World.frozen?_of_block (w := w) (k.block b h.lt e)]; exact h.fr i⟩
/-- What holds while that region goes on, whatever has come up. -/
structure RJ (B c len cap : Nat) (ad : Option Addr) (w : World) (v0 : Value) (L0 : List Rw) (L : Nat → Bool) (u4 u36 u37 u38 u39 u40 u41 u42 u43 u44 u45 u46 : Value) (W : World) : Prop where
  d : L 10 = false → Da B w W c ad len cap v0 L0
  d2 : L 10 = true → ∃ tn : ByteArray, tn.size ≤ 41 ∧ Da B w W c ad len cap u46 (L0 ++ [(tn, false, false)])
  p3 : L 3 = true → L 2 = true
  p6 : L 6 = true → L 3 = true
  p7 : L 7 = true → L 6 = true
  p8 : L 8 = true → L 7 = true
  p9 : L 9 = true → L 8 = true
  p10 : L 10 = true → L 0 = true
  p11 : L 11 = true → L 10 = true
  k0 : L 0 = true → u36 = v0
  k1 : L 1 = true → L 2 = false → ∃ bl : Nat, u37 = .slice (some ⟨bl, 0, none⟩) 41 41 ∧ Bo.Box W bl (madeCells #[.int .u8 0] 41) ∧ c < bl
  k2 : L 2 = true → u38 = .string (zeroS 41)
  k3 : L 3 = true → L 7 = false → ∃ bl : Nat, u39 = .slice (some ⟨bl, 0, none⟩) 4 4 ∧ Bo.Box W bl four ∧ c < bl
  k4 : L 4 = true → u40 = .pointer (some ⟨c, 0, none⟩)
  k5 : L 5 = true → ∃ n : Nat, n < 4 ∧ u41 = .int .i64 n
  k6 : L 6 = true → L 7 = false → ∃ bl n : Nat, n < 4 ∧ u42 = .pointer (some ⟨bl, n, none⟩) ∧ Bo.Box W bl four ∧ c < bl
  k7 : L 7 = true → ∃ t : ByteArray, u43 = .string t ∧ t.size ≤ 41
  k8 : L 8 = true → ∃ t : ByteArray, u44 = .agg #[.string t, .bool false, .bool false] ∧ t.size ≤ 41
  k9 : L 9 = true → L 10 = false → ∃ (bl : Nat) (t : ByteArray), u45 = .slice (some ⟨bl, 0, none⟩) 1 1 ∧ Bo.Box W bl #[.string t, .bool false, .bool false] ∧ t.size ≤ 41 ∧ c < bl
  k11 : L 11 = true → u4 = u46
theorem RJ.alloc {B c len cap : Nat} {ad : Option Addr} {w : World} {v0 : Value} {L0 : List Rw} {L : Nat → Bool} {u4 u36 u37 u38 u39 u40 u41 u42 u43 u44 u45 u46 : Value} {W : World} (h : RJ B c len cap ad w v0 L0 L u4 u36 u37 u38 u39 u40 u41 u42 u43 u44 u45 u46 W) (ob : Obj) : RJ B c len cap ad w v0 L0 L u4 u36 u37 u38 u39 u40 u41 u42 u43 u44 u45 u46 (W.alloc ob) :=
  ⟨(fun q => (h.d q).low ((Below.refl W.heap.size W).alloc (Nat.le_refl _) ob)), (fun q => by obtain ⟨tn, s, x⟩ := h.d2 q; exact ⟨tn, s, x.low ((Below.refl W.heap.size W).alloc (Nat.le_refl _) ob)⟩), h.p3, h.p6, h.p7, h.p8, h.p9, h.p10, h.p11, h.k0, (fun q r => by obtain ⟨bl, e, x, y⟩ := h.k1 q r; exact ⟨bl, e, x.alloc ob, y⟩), h.k2, (fun q r => by obtain ⟨bl, e, x, y⟩ := h.k3 q r; exact ⟨bl, e, x.alloc ob, y⟩), h.k4, h.k5, (fun q r => by obtain ⟨bl, n, hn, e, x, y⟩ := h.k6 q r; exact ⟨bl, n, hn, e, x.alloc ob, y⟩), h.k7, h.k8, (fun q r => by obtain ⟨bl, t, e, x, s, y⟩ := h.k9 q r; exact ⟨bl, t, e, x.alloc ob, s, y⟩), h.k11⟩
theorem RJ.call {B c len cap : Nat} {ad : Option Addr} {w : World} {v0 : Value} {L0 : List Rw} {L : Nat → Bool} {u4 u36 u37 u38 u39 u40 u41 u42 u43 u44 u45 u46 : Value} {W W' : World} (h : RJ B c len cap ad w v0 L0 L u4 u36 u37 u38 u39 u40 u41 u42 u43 u44 u45 u46 W) (hC : Cur B W' c ad len cap) (k : Only c W W') (hc : c < w.heap.size) : RJ B c len cap ad w v0 L0 L u4 u36 u37 u38 u39 u40 u41 u42 u43 u44 u45 u46 W' :=
  ⟨(fun q => (h.d q).call hC k hc), (fun q => by obtain ⟨tn, s, x⟩ := h.d2 q; exact ⟨tn, s, x.call hC k hc⟩), h.p3, h.p6, h.p7, h.p8, h.p9, h.p10, h.p11, h.k0, (fun q r => by obtain ⟨bl, e, x, y⟩ := h.k1 q r; exact ⟨bl, e, box_oth x k (by omega), y⟩), h.k2, (fun q r => by obtain ⟨bl, e, x, y⟩ := h.k3 q r; exact ⟨bl, e, box_oth x k (by omega), y⟩), h.k4, h.k5, (fun q r => by obtain ⟨bl, n, hn, e, x, y⟩ := h.k6 q r; exact ⟨bl, n, hn, e, box_oth x k (by omega), y⟩), h.k7, h.k8, (fun q r => by obtain ⟨bl, t, e, x, s, y⟩ := h.k9 q r; exact ⟨bl, t, e, box_oth x k (by omega), s, y⟩), h.k11⟩
theorem RJ.s0 {B c len cap : Nat} {ad : Option Addr} {w : World} {v0 : Value} {L0 : List Rw} {L : Nat → Bool} {u4 u36 u37 u38 u39 u40 u41 u42 u43 u44 u45 u46 : Value} {v : Value} {W : World} (h : RJ B c len cap ad w v0 L0 L u4 u36 u37 u38 u39 u40 u41 u42 u43 u44 u45 u46 W) (hv : v = v0) : RJ B c len cap ad w v0 L0 (upd L 0) u4 v u37 u38 u39 u40 u41 u42 u43 u44 u45 u46 W :=
  ⟨h.d, h.d2, h.p3, h.p6, h.p7, h.p8, h.p9, (fun _ => rfl), h.p11, (fun _ => hv), h.k1, h.k2, h.k3, h.k4, h.k5, h.k6, h.k7, h.k8, h.k9, h.k11⟩
theorem RJ.s1 {B c len cap : Nat} {ad : Option Addr} {w : World} {v0 : Value} {L0 : List Rw} {L : Nat → Bool} {u4 u36 u37 u38 u39 u40 u41 u42 u43 u44 u45 u46 : Value} {v : Value} {W : World} (h : RJ B c len cap ad w v0 L0 L u4 u36 u37 u38 u39 u40 u41 u42 u43 u44 u45 u46 W) (hv : L 2 = false → ∃ bl : Nat, v = .slice (some ⟨bl, 0, none⟩) 41 41 ∧ Bo.Box W bl (madeCells #[.int .u8 0] 41) ∧ c < bl) : RJ B c len cap ad w v0 L0 (upd L 1) u4 u36 v u38 u39 u40 u41 u42 u43 u44 u45 u46 W :=
  ⟨h.d, h.d2, h.p3, h.p6, h.p7, h.p8, h.p9, h.p10, h.p11, h.k0, (fun _ => hv), h.k2, h.k3, h.k4, h.k5, h.k6, h.k7, h.k8, h.k9, h.k11⟩
theorem RJ.s2 {B c len cap : Nat} {ad : Option Addr} {w : World} {v0 : Value} {L0 : List Rw} {L : Nat → Bool} {u4 u36 u37 u38 u39 u40 u41 u42 u43 u44 u45 u46 : Value} {v : Value} {W : World} (h : RJ B c len cap ad w v0 L0 L u4 u36 u37 u38 u39 u40 u41 u42 u43 u44 u45 u46 W) (hv : v = .string (zeroS 41)) : RJ B c len cap ad w v0 L0 (upd L 2) u4 u36 u37 v u39 u40 u41 u42 u43 u44 u45 u46 W :=
  ⟨h.d, h.d2, (fun _ => rfl), h.p6, h.p7, h.p8, h.p9, h.p10, h.p11, h.k0, (fun _ q => by cases q), (fun _ => hv), h.k3, h.k4, h.k5, h.k6, h.k7, h.k8, h.k9, h.k11⟩
theorem RJ.s3 {B c len cap : Nat} {ad : Option Addr} {w : World} {v0 : Value} {L0 : List Rw} {L : Nat → Bool} {u4 u36 u37 u38 u39 u40 u41 u42 u43 u44 u45 u46 : Value} {v : Value} {W : World} (h : RJ B c len cap ad w v0 L0 L u4 u36 u37 u38 u39 u40 u41 u42 u43 u44 u45 u46 W) (hp : L 2 = true) (hv : L 7 = false → ∃ bl : Nat, v = .slice (some ⟨bl, 0, none⟩) 4 4 ∧ Bo.Box W bl four ∧ c < bl) : RJ B c len cap ad w v0 L0 (upd L 3) u4 u36 u37 u38 v u40 u41 u42 u43 u44 u45 u46 W :=
  ⟨h.d, h.d2, (fun _ => hp), (fun _ => rfl), h.p7, h.p8, h.p9, h.p10, h.p11, h.k0, h.k1, h.k2, (fun _ => hv), h.k4, h.k5, h.k6, h.k7, h.k8, h.k9, h.k11⟩
theorem RJ.s4 {B c len cap : Nat} {ad : Option Addr} {w : World} {v0 : Value} {L0 : List Rw} {L : Nat → Bool} {u4 u36 u37 u38 u39 u40 u41 u42 u43 u44 u45 u46 : Value} {v : Value} {W : World} (h : RJ B c len cap ad w v0 L0 L u4 u36 u37 u38 u39 u40 u41 u42 u43 u44 u45 u46 W) (hv : v = .pointer (some ⟨c, 0, none⟩)) : RJ B c len cap ad w v0 L0 (upd L 4) u4 u36 u37 u38 u39 v u41 u42 u43 u44 u45 u46 W :=
  ⟨h.d, h.d2, h.p3, h.p6, h.p7, h.p8, h.p9, h.p10, h.p11, h.k0, h.k1, h.k2, h.k3, (fun _ => hv), h.k5, h.k6, h.k7, h.k8, h.k9, h.k11⟩
theorem RJ.s5 {B c len cap : Nat} {ad : Option Addr} {w : World} {v0 : Value} {L0 : List Rw} {L : Nat → Bool} {u4 u36 u37 u38 u39 u40 u41 u42 u43 u44 u45 u46 : Value} {v : Value} {W : World} (h : RJ B c len cap ad w v0 L0 L u4 u36 u37 u38 u39 u40 u41 u42 u43 u44 u45 u46 W) (hv : ∃ n : Nat, n < 4 ∧ v = .int .i64 n) : RJ B c len cap ad w v0 L0 (upd L 5) u4 u36 u37 u38 u39 u40 v u42 u43 u44 u45 u46 W :=
  ⟨h.d, h.d2, h.p3, h.p6, h.p7, h.p8, h.p9, h.p10, h.p11, h.k0, h.k1, h.k2, h.k3, h.k4, (fun _ => hv), h.k6, h.k7, h.k8, h.k9, h.k11⟩
theorem RJ.s6 {B c len cap : Nat} {ad : Option Addr} {w : World} {v0 : Value} {L0 : List Rw} {L : Nat → Bool} {u4 u36 u37 u38 u39 u40 u41 u42 u43 u44 u45 u46 : Value} {v : Value} {W : World} (h : RJ B c len cap ad w v0 L0 L u4 u36 u37 u38 u39 u40 u41 u42 u43 u44 u45 u46 W) (hp : L 3 = true) (hv : L 7 = false → ∃ bl n : Nat, n < 4 ∧ v = .pointer (some ⟨bl, n, none⟩) ∧ Bo.Box W bl four ∧ c < bl) : RJ B c len cap ad w v0 L0 (upd L 6) u4 u36 u37 u38 u39 u40 u41 v u43 u44 u45 u46 W :=
  ⟨h.d, h.d2, h.p3, (fun _ => hp), (fun _ => rfl), h.p8, h.p9, h.p10, h.p11, h.k0, h.k1, h.k2, h.k3, h.k4, h.k5, (fun _ => hv), h.k7, h.k8, h.k9, h.k11⟩
theorem RJ.s7 {B c len cap : Nat} {ad : Option Addr} {w : World} {v0 : Value} {L0 : List Rw} {L : Nat → Bool} {u4 u36 u37 u38 u39 u40 u41 u42 u43 u44 u45 u46 : Value} {v : Value} {W : World} (h : RJ B c len cap ad w v0 L0 L u4 u36 u37 u38 u39 u40 u41 u42 u43 u44 u45 u46 W) (hp : L 6 = true) (hv : ∃ t : ByteArray, v = .string t ∧ t.size ≤ 41) : RJ B c len cap ad w v0 L0 (upd L 7) u4 u36 u37 u38 u39 u40 u41 u42 v u44 u45 u46 W :=
  ⟨h.d, h.d2, h.p3, h.p6, (fun _ => hp), (fun _ => rfl), h.p9, h.p10, h.p11, h.k0, h.k1, h.k2, (fun _ q => by cases q), h.k4, h.k5, (fun _ q => by cases q), (fun _ => hv), h.k8, h.k9, h.k11⟩
theorem RJ.s8 {B c len cap : Nat} {ad : Option Addr} {w : World} {v0 : Value} {L0 : List Rw} {L : Nat → Bool} {u4 u36 u37 u38 u39 u40 u41 u42 u43 u44 u45 u46 : Value} {v : Value} {W : World} (h : RJ B c len cap ad w v0 L0 L u4 u36 u37 u38 u39 u40 u41 u42 u43 u44 u45 u46 W) (hp : L 7 = true) (hv : ∃ t : ByteArray, v = .agg #[.string t, .bool false, .bool false] ∧ t.size ≤ 41) : RJ B c len cap ad w v0 L0 (upd L 8) u4 u36 u37 u38 u39 u40 u41 u42 u43 v u45 u46 W :=
  ⟨h.d, h.d2, h.p3, h.p6, h.p7, (fun _ => hp), (fun _ => rfl), h.p10, h.p11, h.k0, h.k1, h.k2, h.k3, h.k4, h.k5, h.k6, h.k7, (fun _ => hv), h.k9, h.k11⟩
theorem RJ.s9 {B c len cap : Nat} {ad : Option Addr} {w : World} {v0 : Value} {L0 : List Rw} {L : Nat → Bool} {u4 u36 u37 u38 u39 u40 u41 u42 u43 u44 u45 u46 : Value} {v : Value} {W : World} (h : RJ B c len cap ad w v0 L0 L u4 u36 u37 u38 u39 u40 u41 u42 u43 u44 u45 u46 W) (hp : L 8 = true) (hv : L 10 = false → ∃ (bl : Nat) (t : ByteArray), v = .slice (some ⟨bl, 0, none⟩) 1 1 ∧ Bo.Box W bl #[.string t, .bool false, .bool false] ∧ t.size ≤ 41 ∧ c < bl) : RJ B c len cap ad w v0 L0 (upd L 9) u4 u36 u37 u38 u39 u40 u41 u42 u43 u44 v u46 W :=
  ⟨h.d, h.d2, h.p3, h.p6, h.p7, h.p8, (fun _ => hp), h.p10, h.p11, h.k0, h.k1, h.k2, h.k3, h.k4, h.k5, h.k6, h.k7, h.k8, (fun _ => hv), h.k11⟩
theorem RJ.s11 {B c len cap : Nat} {ad : Option Addr} {w : World} {v0 : Value} {L0 : List Rw} {L : Nat → Bool} {u4 u36 u37 u38 u39 u40 u41 u42 u43 u44 u45 u46 : Value} {v : Value} {W : World} (h : RJ B c len cap ad w v0 L0 L u4 u36 u37 u38 u39 u40 u41 u42 u43 u44 u45 u46 W) (hp : L 10 = true) (hv : v = u46) : RJ B c len cap ad w v0 L0 (upd L 11) v u36 u37 u38 u39 u40 u41 u42 u43 u44 u45 u46 W :=
  ⟨h.d, h.d2, h.p3, h.p6, h.p7, h.p8, h.p9, h.p10, (fun _ => hp), h.k0, h.k1, h.k2, h.k3, h.k4, h.k5, h.k6, h.k7, h.k8, h.k9, (fun _ => hv)⟩
theorem RJ.s10 {B c len cap : Nat} {ad : Option Addr} {w : World} {v0 : Value} {L0 : List Rw} {L : Nat → Bool} {u4 u36 u37 u38 u39 u40 u41 u42 u43 u44 u45 u46 : Value} {v : Value} {W W' : World} {tn : ByteArray} (h : RJ B c len cap ad w v0 L0 L u4 u36 u37 u38 u39 u40 u41 u42 u43 u44 u45 u46 W) (h0 : L 0 = true) (h9 : L 9 = true) (h11 : L 11 = false) (ht : tn.size ≤ 41) (hd : Da B w W' c ad len cap v (L0 ++ [(tn, false, false)])) : RJ B c len cap ad w v0 L0 (upd L 10) u4 u36 u37 u38 u39 u40 u41 u42 u43 u44 u45 v W' := by
  have h8 := h.p9 h9
  have h7 := h.p8 h8
  have h6 := h.p7 h7
  have h3 := h.p6 h6
  have h2 := h.p3 h3
  exact ⟨(fun q => by cases q), (fun _ => ⟨tn, ht, hd⟩), h.p3, h.p6, h.p7, h.p8, h.p9, (fun _ => h0), (fun _ => rfl), h.k0, (fun _ q => by rw [show upd L 10 2 = L 2 from rfl, h2] at q; cases q), h.k2, (fun _ q => by rw [show upd L 10 7 = L 7 from rfl, h7] at q; cases q), h.k4, h.k5, (fun _ q => by rw [show upd L 10 7 = L 7 from rfl, h7] at q; cases q), h.k7, h.k8, (fun _ q => by cases q), (fun q => by rw [show upd L 10 11 = L 11 from rfl, h11] at q; cases q)⟩
def JJ (B c len cap : Nat) (ad : Option Addr) (w : World) (v0 : Value) (L0 : List Rw) (y1 y2 y3 y5 y6 y7 y8 y9 y10 y11 y12 y13 y14 y15 y16 y17 y18 y19 y20 y21 y22 y23 y24 y25 y26 y27 y28 y29 y30 y31 y32 y33 y34 y35 y47 y48 y49 y50 y51 y52 y53 y54 y55 y56 y57 y58 y59 y60 y61 y62 y63 y64 y65 y66 y67 y68 : Value) (L : Nat → Bool) (a : Act) (W : World) : Prop := ∃ u4 u36 u37 u38 u39 u40 u41 u42 u43 u44 u45 u46 : Value, (L 0 = false → u4 = v0) ∧ a = ⟨(.pointer (some ⟨c, 0, none⟩) :: y1 :: y2 :: y3 :: u4 :: y5 :: y6 :: y7 :: y8 :: y9 :: y10 :: y11 :: y12 :: y13 :: y14 :: y15 :: y16 :: y17 :: y18 :: y19 :: y20 :: y21 :: y22 :: y23 :: y24 :: y25 :: y26 :: y27 :: y28 :: y29 :: y30 :: y31 :: y32 :: y33 :: y34 :: y35 :: u36 :: u37 :: u38 :: u39 :: u40 :: u41 :: u42 :: u43 :: u44 :: u45 :: u46 :: y47 :: y48 :: y49 :: y50 :: y51 :: y52 :: y53 :: y54 :: y55 :: y56 :: y57 :: y58 :: y59 :: y60 :: y61 :: y62 :: y63 :: y64 :: y65 :: y66 :: y67 :: y68 :: []).toArray, []⟩ ∧ RJ B c len cap ad w v0 L0 L u4 u36 u37 u38 u39 u40 u41 u42 u43 u44 u45 u46 W
theorem zed (wr : World) (j : Nat) (hj : j < 12) : (convert 22 9 (.slice (some ⟨wr.heap.size, 0, none⟩) 2 2)).run Try.prog (wr.alloc (.cells #[.int .u8 122, .int .u8 (97 + (j : Int))] 5)) = .ok (.string ⟨#[122, UInt8.ofNat (97 + j)]⟩) (wr.alloc (.cells #[.int .u8 122, .int .u8 (97 + (j : Int))] 5)) := by
  refine run_convert_bytes_back _ _ _ 5 ⟨wr.heap.size, 0, none⟩ 2 [122, UInt8.ofNat (97 + j)] Try.underlying22 Try.underlying5 Try.underlying9 (fun k hk => ?_)
  match k, hk with
  | 0, _ => simp [Addr.add]
  | 1, _ =>
    simp [Addr.add]
    omega
set_option maxRecDepth 100000 in
set_option maxHeartbeats 8000000 in
theorem l14Draw_any (B c : Nat) (ad : Option Addr) (len cap : Nat) (w : World) (hC : Cur B w c ad len cap) :
    Calls Try.prog 24 #[.pointer (some ⟨c, 0, none⟩)] w fun e w' => ∃ v L, e = .returned v ∧ L.length ≤ 19 ∧ (∀ i, i < L.length → (rat L i).1.size ≤ 41) ∧ Own w' w.heap.size v L ∧ Cur B w' c ad len cap ∧ Only c w w' := by
  obtain ⟨i0, hi0, hz0, hz1, hz2⟩ := info_parts infoRw
  have hlt := hC.lt
  have HD0 : Hid (Da B w ((w.alloc (.cells seven 9)).alloc (.cells #[] 28)) c ad len cap (.slice (some ⟨w.heap.size + 1, 0, none⟩) 0 0) []) := hidIt
    ⟨by have := Own.new (w.alloc (.cells seven 9)); simpa using this, fun i => by rw [((Below.refl (w.alloc (.cells seven 9)).heap.size (w.alloc (.cells seven 9))).alloc (Nat.le_refl _) (.cells #[] 28)).cell (by simp)]; simp, by simp; omega, hC.kept (((Below.refl (c + 1) w).alloc (by omega) _).alloc (by simp; omega) _), ((Only.refl c w).alloc _).alloc _, fun i hi => by simp at hi⟩
  clear hC
  simp only [seven] at HD0
  go_enter Try.func24, Try.ntmps24
  go_wp2_with (fail)
  go_loopw [4, 5] (fun s4 s5 wx => ∃ (i : Nat) (L : List Rw), s5 = .int .i64 i ∧ i ≤ 7 ∧ Hid (L.length ≤ i) ∧ Hid (Da B w wx c ad len cap s4 L)) (fun _ s5 _ => (7 - intOf s5).toNat)
  case atStart => exact ⟨0, [], rfl, by omega, hidIt (by simp), HD0⟩
  case round =>
    obtain ⟨i, L, rfl, hi, HL, HD⟩ := hrel
    clear HD0
    by_cases hin : i < 7
    · have hin' : (i : Int) < 7 := by omega
      have hi0' : (0 : Int) ≤ (i : Int) := by omega
      go_wp2_with (fail)
      refine (l1Once_any B c ad len cap 3 _ (by decide) HD.out.cur).mono ?_
      rintro e W1 ⟨b1, rfl, hC1, hO1⟩
      replace HD := hidIt (HD.out.call hC1 hO1 hlt)
      clear hC1 hO1
      cases b1 with
      | false =>
        go_wp2_with (fail)
        exact ⟨⟨i + 1, L, by simp, by omega, hidIt (by have := HL.out; omega), HD⟩, by simp [intOf]; omega⟩
      | true =>
        obtain ⟨x, hx, hxs⟩ := seven_at hin
        have HX := hidIt hx
        have hS : W1.cell? ⟨w.heap.size, i, none⟩ = some (.string x) := (HD.out.tex i).trans hx
        clear hx
        obtain ⟨ao, co, ev, ho1, ho2, _⟩ := HD.out.own.form
        subst ev
        have HDd := hidIt (HD.out.low ((Below.refl W1.heap.size W1).drew))
        go_wp2_with (fail)
        go_region_held3 (fun w' => w'.cell? ⟨w.heap.size, i, none⟩ = some (.string x))
          (first | assumption | exact hS | exact hS2 | exact hS3 | exact hS4 | go_keep)
          (first
            | (go_at_call 28; have h0 := HD2; clear h0; refine (l1Once_any B c ad len cap 2 _ (by decide) HD2.out.cur).mono ?_; rintro e W3 ⟨b3, rfl, hC1, hO1⟩; have HD3 := hidIt (HD2.out.call hC1 hO1 hlt); have hS3 := (HD3.out.tex i).trans HX.out; clear hC1 hO1)
            | (go_at_call 28; refine (l1Once_any B c ad len cap 3 _ (by decide) HDd.out.cur).mono ?_; rintro e W2 ⟨b2, rfl, hC1, hO1⟩; have HD2 := hidIt (HDd.out.call hC1 hO1 hlt); have hS2 := (HD2.out.tex i).trans HX.out; clear hC1 hO1)
            | (refine step_append (by rfl) (.tmp 17) (.tmp 28) (by rfl) (w.heap.size + 1) (.slice ao L.length co) L [(x, !b2, b3)] (by simp [Act.eval]) (HD3.out.own.alloc _) ⟨W3.heap.size, 0, none⟩ 1 1 rfl (by simp [Act.eval]) (fresh W3 (x, !b2, b3) _) (by have := HL.out; omega) (by have := HD3.out.lt; simp; omega) ?_; intro v' w' hown hgrow hnil; have HD4 := hidIt ((HD3.out.low ((Below.refl W3.heap.size W3).alloc (Nat.le_refl _) _)).grown hlt hown hgrow (sz_more HD.out.sz hxs)); have hS4 := (HD4.out.tex i).trans HX.out; clear hown hgrow hnil))
        all_goals
          clear hS hS2 hS3 hS4
          go_wp2_with (fail)
          exact ⟨⟨i + 1, _, by simp, by omega, hidIt (by have := HL.out; simp; omega), HD4⟩, by simp [intOf]; omega⟩
    · have hin' : ¬ (i : Int) < 7 := by omega
      have HL7 : Hid (L.length ≤ 7) := hidIt (by have := HL.out; omega)
      clear HL
      go_wp2_with (fail)
      refine (l1Once_any B c ad len cap 14 _ (by decide) HD.out.cur).mono ?_
      rintro e W1 ⟨b1, rfl, hC1, hO1⟩
      replace HD := hidIt (HD.out.call hC1 hO1 hlt)
      clear hC1 hO1
      cases b1 with
      | false =>
        go_wp2_with (fail)
        go_ret
        exact ⟨_, L, rfl, by have := HL7.out; omega, HD.out.sz, HD.out.own.mono (by omega), HD.out.cur, HD.out.only⟩
      | true =>
        go_wp2_with (fail)
        refine (l1Below_any B c ad len cap 3 _ (by decide) HD.out.cur).mono ?_
        rintro e W2 ⟨t, t0, t1, rfl, hC1, hO1⟩
        replace HD := hidIt (HD.out.call hC1 hO1 hlt)
        clear hC1 hO1
        have ht : t = 0 ∨ t = 1 ∨ t = 2 := by omega
        clear t0 t1
        obtain ⟨ao, co, ev, ho1, ho2, _⟩ := HD.out.own.form
        subst ev
        rcases ht with rfl | rfl | rfl
        · go_wp2_with (fail)
          have H0 : RJ B c len cap ad w (.slice ao L.length co) L (fun i => decide (12 ≤ i)) (.slice ao L.length co) undef undef undef undef undef undef undef undef undef undef undef W2.drew := ⟨fun _ => HD.out.low ((Below.refl W2.heap.size W2).drew), (fun q => by cases q), (fun q => by cases q), (fun q => by cases q), (fun q => by cases q), (fun q => by cases q), (fun q => by cases q), (fun q => by cases q), (fun q => by cases q), (fun q => by cases q), (fun q => by cases q), (fun q => by cases q), (fun q => by cases q), (fun q => by cases q), (fun q => by cases q), (fun q => by cases q), (fun q => by cases q), (fun q => by cases q), (fun q => by cases q), (fun q => by cases q)⟩
          have hlt2 := HD.out.cur.lt
          refine wp_region_inv (by kernel_rfl) (by kernel_rfl) (JJ B c len cap ad w (.slice ao L.length co) L _ _ _ _ _ _ _ _ _ _ _ _ _ _ _ _ _ _ _ _ _ _ _ _ _ _ _ _ _ _ _ _ _ _ _ _ _ _ _ _ _ _ _ _ _ _ _ _ _ _ _ _ _ _ _ _) ⟨_, _, _, _, _, _, _, _, _, _, _, _, fun _ => rfl, rfl, H0⟩ ?_ ?_
          case refine_1 =>
            clear H0 HD
            intro Lb a' W i hi hI hL hD
            have hcases : i = 0 ∨ i = 1 ∨ i = 2 ∨ i = 3 ∨ i = 4 ∨ i = 5 ∨ i = 6 ∨ i = 7 ∨ i = 8 ∨ i = 9 ∨ i = 10 ∨ i = 11 := by simp at hi; omega
            clear hi
            obtain ⟨u4, u36, u37, u38, u39, u40, u41, u42, u43, u44, u45, u46, h4, rfl, h⟩ := hI
            rcases hcases with rfl | rfl | rfl | rfl | rfl | rfl | rfl | rfl | rfl | rfl | rfl | rfl
            · skip
              have e4 := h4 hL
              subst e4
              refine op_at rfl (fun K hK => ?_)
              go_simp
              refine hK _ _ ?_
              exact ⟨_, _, _, _, _, _, _, _, _, _, _, _, (fun q => by cases q), rfl, h.s0 rfl⟩
            · skip
              have hmk := mk_zero W
              have hcw : c < W.heap.size := by
                cases q : Lb 10 with
                | false => exact (h.d q).cur.lt
                | true => obtain ⟨tn, _, x⟩ := h.d2 q; exact x.cur.lt
              refine op_at rfl (fun K hK => ?_)
              go_simp
              refine hK _ _ ?_
              exact ⟨_, _, _, _, _, _, _, _, _, _, _, _, h4, rfl, (h.alloc _).s1 (fun _ => ⟨_, rfl, Bo.Box.new W (madeCells #[.int .u8 0] 41) 5, hcw⟩)⟩
            · skip
              obtain ⟨bl, e, hb, hcb⟩ := h.k1 (hD 1 (by kernel_rfl)) hL
              subst e
              have hcv := back_zero hb
              have hcz : Hid (zeroS 41 = zeroS 41) := hidIt rfl
              generalize hz41 : zeroS 41 = zs at hcv
              have HZ := hidIt hz41
              clear hz41 hcz
              refine op_at rfl (fun K hK => ?_)
              go_simp
              refine hK _ _ ?_
              exact ⟨_, _, _, _, _, _, _, _, _, _, _, _, h4, rfl, h.s2 (by rw [HZ.out])⟩
            · skip
              have e := h.k2 (hD 2 (by kernel_rfl))
              subst e
              generalize hz41 : zeroS 41 = zs
              have HZ := hidIt hz41
              clear hz41
              have hcw : c < W.heap.size := by
                cases q : Lb 10 with
                | false => exact (h.d q).cur.lt
                | true => obtain ⟨tn, _, x⟩ := h.d2 q; exact x.cur.lt
              refine op_at rfl (fun K hK => ?_)
              go_simp
              refine hK _ _ ?_
              have ez := HZ.out
              subst ez
              exact ⟨_, _, _, _, _, _, _, _, _, _, _, _, h4, rfl, (h.alloc _).s3 (hD 2 (by kernel_rfl)) (fun _ => ⟨_, rfl, Bo.Box.new W #[.string ⟨#[32]⟩, .string ⟨#[121]⟩, .string ⟨#[97]⟩, .string (zeroS 41)] 9, hcw⟩)⟩
            · skip
              refine op_at rfl (fun K hK => ?_)
              go_simp
              refine hK _ _ ?_
              exact ⟨_, _, _, _, _, _, _, _, _, _, _, _, h4, rfl, h.s4 rfl⟩
            · skip
              have e := h.k4 (hD 4 (by kernel_rfl))
              subst e
              have hcu : Cur B W c ad len cap := by
                cases q : Lb 10 with
                | false => exact (h.d q).cur
                | true => obtain ⟨tn, _, x⟩ := h.d2 q; exact x.cur
              refine op_at rfl (fun K hK => ?_)
              go_simp
              refine (l1Below_any B c ad len cap 4 _ (by decide) hcu).mono ?_
              rintro e W1 ⟨x, x0, x1, rfl, hC, hO⟩
              go_simp
              refine hK _ _ ?_
              exact ⟨_, _, _, _, _, _, _, _, _, _, _, _, h4, rfl, (h.call hC hO hlt).s5 ⟨x.toNat, by omega, by rw [Int.toNat_of_nonneg x0]⟩⟩
            · skip
              obtain ⟨n, hn, e2⟩ := h.k5 (hD 5 (by kernel_rfl))
              have h7 : Lb 7 = false := by
                cases q : Lb 7 with
                | false => rfl
                | true => have z := h.p7 q; rw [hL] at z; cases z
              obtain ⟨bl, e, hb, hcb⟩ := h.k3 (hD 3 (by kernel_rfl)) h7
              subst e e2
              have hn1 : (n : Int) < 4 := by omega
              refine op_at rfl (fun K hK => ?_)
              go_simp
              refine hK _ _ ?_
              exact ⟨_, _, _, _, _, _, _, _, _, _, _, _, h4, rfl, h.s6 (hD 3 (by kernel_rfl)) (fun _ => ⟨bl, n, hn, rfl, hb, hcb⟩)⟩
            · skip
              obtain ⟨bl, n, hn, e, hb, hcb⟩ := h.k6 (hD 6 (by kernel_rfl)) hL
              subst e
              obtain ⟨tn, htn, hts⟩ := four_at (i := n) hn
              have hc1 := hb.c n htn
              clear htn
              refine op_at rfl (fun K hK => ?_)
              go_simp
              refine hK _ _ ?_
              exact ⟨_, _, _, _, _, _, _, _, _, _, _, _, h4, rfl, h.s7 (hD 6 (by kernel_rfl)) ⟨tn, rfl, hts⟩⟩
            · skip
              obtain ⟨tn, e, hts⟩ := h.k7 (hD 7 (by kernel_rfl))
              subst e
              refine op_at rfl (fun K hK => ?_)
              go_simp
              refine hK _ _ ?_
              exact ⟨_, _, _, _, _, _, _, _, _, _, _, _, h4, rfl, h.s8 (hD 7 (by kernel_rfl)) ⟨tn, rfl, hts⟩⟩
            · skip
              obtain ⟨tn, e, hts⟩ := h.k8 (hD 8 (by kernel_rfl))
              subst e
              have hcw : c < W.heap.size := by
                cases q : Lb 10 with
                | false => exact (h.d q).cur.lt
                | true => obtain ⟨tn, _, x⟩ := h.d2 q; exact x.cur.lt
              refine op_at rfl (fun K hK => ?_)
              go_simp
              refine hK _ _ ?_
              exact ⟨_, _, _, _, _, _, _, _, _, _, _, _, h4, rfl, (h.alloc _).s9 (hD 8 (by kernel_rfl)) (fun _ => ⟨_, tn, rfl, Bo.Box.new W #[.string tn, .bool false, .bool false] 28, hts, hcw⟩)⟩
            · skip
              have e0 := h.k0 (hD 0 (by kernel_rfl))
              obtain ⟨bl, tn, e9, hb, hts, hcb⟩ := h.k9 (hD 9 (by kernel_rfl)) hL
              subst e0 e9
              have hda := h.d hL
              have h11 : Lb 11 = false := by
                cases q : Lb 11 with
                | false => rfl
                | true => have z := h.p11 q; rw [hL] at z; cases z
              refine op_at rfl (fun K hK => ?_)
              refine step_append (by rfl) (.tmp 36) (.tmp 45) (by rfl) (w.heap.size + 1) (.slice ao L.length co) L [(tn, false, false)] (by simp [Act.eval]) hda.own ⟨bl, 0, none⟩ 1 1 rfl (by simp [Act.eval]) (fun j u hj => ?_) (by have := HL7.out; omega) (by have := hda.lt; omega) ?_
              · match j, hj with
                | 0, hj => simp [rcells] at hj; subst hj; rw [Go.WideShapes.add_plain]; exact hb.c 0 rfl
                | 1, hj => simp [rcells] at hj; subst hj; rw [Go.WideShapes.add_plain]; exact hb.c 1 rfl
                | 2, hj => simp [rcells] at hj; subst hj; rw [Go.WideShapes.add_plain]; exact hb.c 2 rfl
                | j + 3, hj => simp [rcells] at hj
              · intro v' w' hown hgrow _
                refine hK _ _ ?_
                exact ⟨_, _, _, _, _, _, _, _, _, _, _, _, h4, rfl, h.s10 (hD 0 (by kernel_rfl)) (hD 9 (by kernel_rfl)) h11 hts (hda.grown hlt hown hgrow (sz_more hda.sz hts))⟩
            · skip
              have h10 := hD 10 (by kernel_rfl)
              refine op_at rfl (fun K hK => ?_)
              go_simp
              refine hK _ _ ?_
              exact ⟨_, _, _, _, _, _, _, _, _, _, _, _, (fun q => by rw [show upd Lb 11 0 = Lb 0 from rfl, h.p10 h10] at q; cases q), rfl, h.s11 h10 rfl⟩
          case refine_2 =>
            clear H0 HD
            intro Lb a' W hI hall
            obtain ⟨u4, u36, u37, u38, u39, u40, u41, u42, u43, u44, u45, u46, h4, rfl, h⟩ := hI
            obtain ⟨tn, hts, hda⟩ := h.d2 (hall 10)
            have e4 := h.k11 (hall 11)
            subst e4
            obtain ⟨a1, c1, ev, _, _, _⟩ := hda.own.form
            subst ev
            have HD4 := hidIt hda
            clear h h4 hall hda
            go_wp2_with (fail)
            go_ret
            exact ⟨_, _, rfl, by have := HL7.out; simp; omega, HD4.out.sz, HD4.out.own.mono (by omega), HD4.out.cur, HD4.out.only⟩
        · go_wp2_with (fail)
          go_loopw [4, 6] (fun s4 s6 wx => ∃ (j : Nat) (M : List Rw), s6 = .int .i64 j ∧ j ≤ 12 ∧ Hid (M.length ≤ 7 + j) ∧ Hid (Da B w wx c ad len cap s4 M)) (fun _ s6 _ => (12 - intOf s6).toNat)
          case atStart => exact ⟨0, L, rfl, by omega, hidIt (by have := HL7.out; omega), HD⟩
          case round =>
            clear HD
            obtain ⟨j, M, rfl, hj, HLM, HD⟩ := hrel
            obtain ⟨am, cm, ev, hm1, hm2, _⟩ := HD.out.own.form
            subst ev
            by_cases hjn : j < 12
            · have hjn' : (j : Int) < 12 := by omega
              have hz := zed wr j hjn
              have HDb := hidIt (HD.out.low ((Below.refl wr.heap.size wr).alloc (Nat.le_refl _) (.cells #[.int .u8 122, .int .u8 (97 + (j : Int))] 5)))
              generalize hx : (⟨#[122, UInt8.ofNat (97 + j)]⟩ : ByteArray) = x at hz
              have hxs : x.size ≤ 41 := by subst hx; simp [ByteArray.size]
              clear hx
              have HDa := hidIt (HDb.out.low ((Below.refl (wr.alloc (.cells #[.int .u8 122, .int .u8 (97 + (j : Int))] 5)).heap.size (wr.alloc (.cells #[.int .u8 122, .int .u8 (97 + (j : Int))] 5))).alloc (Nat.le_refl _) (.cells #[.string x, .bool false, .bool false] 28)))
              have HOw : Hid (World.ownsRow ((wr.alloc (.cells #[.int .u8 122, .int .u8 (97 + (j : Int))] 5)).alloc (.cells #[.string x, .bool false, .bool false] 28)) (w.heap.size + 1) 28 3 (.slice am M.length cm) M.length (rcells M)) := hidIt HDa.out.own
              have HF := hidIt (fresh_at (w := wr.alloc (.cells #[.int .u8 122, .int .u8 (97 + (j : Int))] 5)) (k := wr.heap.size + 1) (by simp) (x, false, false) 28)
              go_wp2_with (first | (at_builtin; refine wpList_append_own _ rfl _ _ 24 rfl (w.heap.size + 1) 28 i0 (.agg #[.string ByteArray.empty, .bool false, .bool false]) 3 24 Try.underlying24 hi0 hz0 hz1 hz2 rfl (by decide) _ _ _ rfl HOw.out ⟨wr.heap.size + 1, 0, none⟩ 1 1 [.string x, .bool false, .bool false] rfl rfl HF.out (rcells_one [(x, false, false)]) ?ca1 ?ca2 ?ca3 ?_))
              case ca1 => unfold maxLen; have := HLM.out; omega
              case ca2 => have := HLM.out; omega
              case ca3 => have := HDa.out.lt; omega
              intro v' w9 hown hgrow hnil
              have HD9 := hidIt (HDa.out.grown hlt (M := M ++ [(x, false, false)]) (Own.more (L := M) (M := [(x, false, false)]) hown) hgrow (sz_more HD.out.sz hxs))
              clear hown hgrow hnil
              go_wp2_with (fail)
              exact ⟨⟨j + 1, _, by simp, by omega, hidIt (by have := HLM.out; simp; omega), HD9⟩, by simp [intOf]; omega⟩
            · have hjn' : ¬ (j : Int) < 12 := by omega
              go_wp2_with (fail)
              go_ret
              first | exact ⟨_, M, rfl, by have := HLM.out; omega, HD.out.sz, HD.out.own.mono (by omega), HD.out.cur, HD.out.only⟩ | exact ⟨_, rfl, M, by have := HLM.out; omega, HD.out.sz, HD.out.own.mono (by omega), HD.out.cur, HD.out.only⟩
        · have HDa := hidIt (HD.out.low ((Below.refl W2.heap.size W2).alloc (Nat.le_refl _) (.cells #[.string ⟨#[]⟩, .bool false, .bool false] 28)))
          have HOw : Hid (World.ownsRow (W2.alloc (.cells #[.string ⟨#[]⟩, .bool false, .bool false] 28)) (w.heap.size + 1) 28 3 (.slice ao L.length co) L.length (rcells L)) := hidIt HDa.out.own
          go_wp2_with (first | (at_builtin; refine wpList_append_own _ rfl _ _ 24 rfl (w.heap.size + 1) 28 i0 (.agg #[.string ByteArray.empty, .bool false, .bool false]) 3 24 Try.underlying24 hi0 hz0 hz1 hz2 rfl (by decide) _ _ _ rfl HOw.out ⟨W2.heap.size, 0, none⟩ 1 1 [.string ⟨#[]⟩, .bool false, .bool false] rfl rfl (fresh W2 ((⟨#[]⟩, false, false) : Rw) 28) (rcells_one [((⟨#[]⟩, false, false) : Rw)]) ?ca1 ?ca2 ?ca3 ?_))
          case ca1 => unfold maxLen; have := HL7.out; omega
          case ca2 => have := HL7.out; omega
          case ca3 => have := HDa.out.lt; omega
          intro v' w9 hown hgrow hnil
          have HD9 := hidIt (HDa.out.grown hlt (M := L ++ [((⟨#[]⟩, false, false) : Rw)]) (Own.more (L := L) (M := [((⟨#[]⟩, false, false) : Rw)]) hown) hgrow (sz_more HD.out.sz (by decide)))
          clear hown hgrow hnil
          go_wp2_with (fail)
          go_ret
          exact ⟨_, _, rfl, by have := HL7.out; simp; omega, HD9.out.sz, HD9.out.own.mono (by omega), HD9.out.cur, HD9.out.only⟩
end Go.Proofs.Ytdgnjhppggemhaa.Ru
