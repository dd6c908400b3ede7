/-
  A text bent by the specification's drawing: whatever the bytes, some text of at most two bytes more; it writes into its own cursor and new memory alone.
-/
import Derived.Test.YtdgnjhppggemhaaDoorDraw
import Derived.Test.YtdgnjhppggemhaaDoorNameJ
import Derived.OwnWalk
import Derived.Laws.AppendOwn
import Derived.Laws.IdiomStrings
import Derived.Laws.BytesArg
import Derived.Deep.RegionHeld3
import Derived.Deep.RegionLaw
import Derived.Lib.SmallJoins
import Derived.Lib.ConvBytes
namespace Go.Proofs.YtdgnjhppggemhaaDoor.Nm
open Go.ChangeShapes Go.WideShapes Go.ChangeAt Go.RowKit
open Dr
/-- The bytes l lie in block g, from its first cell on. -/
structure Bt (w : World) (g : Nat) (l : Bytes) : Prop where
  lt : g < w.heap.size
  cell : ∀ j (hj : j < l.length), w.cell? ⟨g, j, none⟩ = some (.int .u8 (l[j].toNat : Int))
  free : ∀ j, j < l.length → w.frozen? ⟨g, j, none⟩ = false
theorem Bt.same {w w' : World} {g : Nat} {l : Bytes} (h : Bt w g l) (hs : w.heap.size ≤ w'.heap.size) (hb : w'.heap[g]? = w.heap[g]?) : Bt w' g l :=
  ⟨Nat.lt_of_lt_of_le h.lt hs, fun j hj => (World.cell?_of_block (a := ⟨g, j, none⟩) hb).trans (h.cell j hj), fun j hj => (World.frozen?_of_block (a := ⟨g, j, none⟩) hb).trans (h.free j hj)⟩
theorem Bt.kept {w w' : World} {g : Nat} {l : Bytes} (h : Bt w g l) (k : Below w.heap.size w w') : Bt w' g l := h.same k.size (k.block g h.lt)
theorem Bt.only {w w' : World} {g c : Nat} {l : Bytes} (h : Bt w g l) (k : Only c w w') (hc : g ≠ c) : Bt w' g l := h.same k.size (k.block g h.lt hc)
theorem Bt.alloc {w : World} {g : Nat} {l : Bytes} (h : Bt w g l) (o : Obj) : Bt (w.alloc o) g l := h.kept ((Below.refl _ _).alloc (Nat.le_refl _) o)
theorem Bt.drew {w : World} {g : Nat} {l : Bytes} (h : Bt w g l) : Bt w.drew g l := ⟨h.lt, h.cell, h.free⟩
theorem Bt.grown {w w' : World} {g : Nat} {row : Option Nat} {l : Bytes} (h : Bt w g l) (k : w.grownBy w' row) (hr : some g ≠ row) : Bt w' g l := h.same k.size (k.block g h.lt hr)
theorem Bt.take {w : World} {g : Nat} {l : Bytes} (h : Bt w g l) (n : Nat) : Bt w g (l.take n) :=
  ⟨h.lt, fun j hj => by rw [List.length_take] at hj; rw [List.getElem_take]; exact h.cell j (by omega), fun j hj => by rw [List.length_take] at hj; exact h.free j (by omega)⟩
theorem Bt.set {w : World} {g k : Nat} {l : Bytes} (h : Bt w g l) (hk : k < l.length) (b : UInt8) : Bt (w.setCell ⟨g, k, none⟩ (.int .u8 (b.toNat : Int))) g (l.set k b) := by
  refine ⟨by simpa [World.setCell] using h.lt, fun j hj => ?_, fun j hj => ?_⟩
  · rw [List.length_set] at hj
    rw [List.getElem_set]
    by_cases e : k = j
    · subst e
      rw [if_pos rfl]
      exact World.cell?_setCell_same' _ _ _ (by rw [h.cell k hk]; rfl)
    · rw [if_neg e, cell_set_other e]
      exact h.cell j hj
  · rw [World.frozen?_setCell]
    rw [List.length_set] at hj
    exact h.free j hj
/-- The cells of some bytes. -/
abbrev bcells (l : Bytes) : List Value := l.map fun b => Value.int .u8 (b.toNat : Int)
theorem bcells_one (l : Bytes) : ∀ u ∈ bcells l, u.oneCell' = true := by
  intro u hu
  obtain ⟨b, _, rfl⟩ := List.mem_map.1 hu
  rfl
theorem Bt.news {w : World} {g : Nat} {l : Bytes} (h : Bt w g l) (i m : Nat) : ∀ j u, (bcells ((l.drop i).take m))[j]? = some u → w.cell? ((⟨g, i, none⟩ : Addr).add j) = some u := by
  intro j u hu
  rw [List.getElem?_map] at hu
  obtain ⟨b, hb, rfl⟩ := Option.map_eq_some_iff.1 hu
  obtain ⟨hj, e⟩ := List.getElem?_eq_some_iff.1 hb
  rw [List.length_take, List.length_drop] at hj
  rw [Go.WideShapes.add_plain, h.cell (i + j) (by omega)]
  rw [List.getElem_take, List.getElem_drop] at e
  rw [e]
theorem Bt.of_own {w : World} {base g n cap : Nat} {l : Bytes} (h : w.ownsRow base 5 1 (.slice (some ⟨g, 0, none⟩) n cap) n (bcells l)) : n = l.length ∧ n ≤ cap ∧ base ≤ g ∧ Bt w g l := by
  have hn : n = l.length := by have := h.1; rw [List.length_map] at this; omega
  rcases h.2 with ⟨e, _⟩ | ⟨g', cap', cur, e, hb, hg, hc, hm, hz, ht⟩
  · cases e
  · cases e
    refine ⟨hn, hc, hb, (Array.getElem?_eq_some_iff.1 hg).1, fun j hj => ?_, fun j hj => World.ownsRow.frozenAt h j⟩
    have := World.ownsRow.cells h (g := g) rfl j (.int .u8 (l[j].toNat : Int)) (by rw [List.getElem?_map, List.getElem?_eq_getElem hj]; rfl)
    rw [Go.WideShapes.add_plain, Nat.zero_add] at this
    exact this
/-- A row of bytes that is the call's own: nil, or cells from a block's first on. -/
def Rw (w : World) (base : Nat) (v : Value) (l : Bytes) : Prop := (v = .slice none 0 0 ∧ l = []) ∨ ∃ g cap, v = .slice (some ⟨g, 0, none⟩) l.length cap ∧ l.length ≤ cap ∧ base ≤ g ∧ Bt w g l
theorem Rw.of_own {w : World} {base n : Nat} {v : Value} {l : Bytes} (h : w.ownsRow base 5 1 v n (bcells l)) : Rw w base v l := by
  have hn : n = l.length := by have := h.1; rw [List.length_map] at this; omega
  rcases h.2 with ⟨e, h0⟩ | ⟨g, cap, cur, e, _⟩
  · exact .inl ⟨e, List.eq_nil_of_length_eq_zero (by omega)⟩
  · subst e
    obtain ⟨_, a, b, c⟩ := Bt.of_own h
    subst hn
    exact .inr ⟨g, cap, rfl, a, b, c⟩
theorem Rw.only {w w' : World} {base c : Nat} {v : Value} {l : Bytes} (h : Rw w base v l) (k : Only c w w') (hc : c < base) : Rw w' base v l := by
  rcases h with h | ⟨g, cap, e, h1, h2, h3⟩
  · exact .inl h
  · exact .inr ⟨g, cap, e, h1, h2, h3.only k (by omega)⟩
theorem Rw.back {w : World} {base : Nat} {v : Value} {l : Bytes} (h : Rw w base v l) : (convert 22 9 v).run Tryd.prog w = .ok (.string (B l)) w := by
  rcases h with ⟨rfl, rfl⟩ | ⟨g, cap, rfl, _, _, hb⟩
  · exact run_convert_bytes_nil (P := Tryd.prog) w 22 5 Tryd.underlying22 Tryd.underlying5 0 0 9 Tryd.underlying9
  · refine run_convert_bytes_back _ _ _ 5 ⟨g, 0, none⟩ cap l Tryd.underlying22 Tryd.underlying5 Tryd.underlying9 (fun j hj => ?_)
    rw [Go.WideShapes.add_plain, Nat.zero_add]
    exact hb.cell j hj
theorem bytes_new (w : World) (s : ByteArray) : ∃ w' v, (convert 9 22 (.string s)).run Tryd.prog w = .ok v w' ∧ Below w.heap.size w w' ∧ Rw w' w.heap.size v (bs s) := by
  have hrun := run_bytes_of_string (P := Tryd.prog) w 9 22 5 s Tryd.underlying9 Tryd.underlying22 Tryd.underlying5
  have hge := grownCap_ge w s.size 0 5
  generalize grownCap w s.size 0 5 = cap at hrun hge
  have hz : s.size ≤ (bytesRow s cap).size := by simp [bytesRow]
  refine ⟨_, _, hrun, ((Below.refl w.heap.size w).drew).alloc (Nat.le_refl _) _, .inr ⟨w.heap.size, cap, by rw [bs_length], by rw [bs_length]; exact hge, Nat.le_refl _, ?_⟩⟩
  refine ⟨by simp, fun j hj => ?_, fun j hj => ?_⟩
  · have h1 := World.cell?_alloc_mark w.drew (bytesRow s cap) 5 ((bytesRow s cap).size, (bytesRow s cap).size + 1) j
    rw [bs_length] at hj
    have h2 := bytesRow_at s cap j hj
    exact h1.trans h2
  · have h1 := World.frozen?_alloc_mark w.drew (bytesRow s cap) 5 (bytesRow s cap).size ((bytesRow s cap).size + 1) j
    refine h1.trans ?_
    rw [bs_length] at hj
    have : ∀ n : Nat, j < n → (decide (n ≤ j) && decide (j < n + 1)) = false := fun n hn => by simp; omega
    exact this _ (by omega)
theorem own_empty (w : World) : (w.alloc (.cells #[] 5)).ownsRow w.heap.size 5 1 (.slice (some ⟨w.heap.size, 0, none⟩) 0 0) 0 (bcells []) :=
  World.ownsRow_made w #[] 0 (Nat.le_refl _) (by decide) rfl
theorem own_drew {w : World} {base e size n : Nat} {v : Value} {xs : List Value} (h : w.ownsRow base e size v n xs) : w.drew.ownsRow base e size v n xs := h
theorem rw_cells {w : World} {base n : Nat} {v : Value} {a b : Bytes} (h : w.ownsRow base 5 1 v n (bcells a ++ bcells b)) : w.ownsRow base 5 1 v n (bcells (a ++ b)) := by
  rw [bcells, List.map_append]
  exact h
theorem Rw.mono {w : World} {base b' : Nat} {v : Value} {l : Bytes} (h : Rw w base v l) (hb : b' ≤ base) : Rw w b' v l := by
  rcases h with h | ⟨g, cap, e, h1, h2, h3⟩
  · exact .inl h
  · exact .inr ⟨g, cap, e, h1, by omega, h3⟩
theorem rw_cells3 {w : World} {base n : Nat} {v : Value} {a b c : Bytes} (h : w.ownsRow base 5 1 v n (bcells [] ++ bcells a ++ bcells b ++ bcells c)) : w.ownsRow base 5 1 v n (bcells (a ++ b) ++ bcells c) := by
  rw [bcells, List.map_append]
  exact h
theorem bend5 {w w' : World} {e : TypeId} (hg : (w.alloc (.cells #[] e)).drew.grownBy w' (Value.slice (some ⟨w.heap.size, 0, none⟩) 0 0).ownBlock) : Below w.heap.size w w' :=
  (((Below.refl _ w).alloc (Nat.le_refl _) _).drew).grown hg (by simp) (fun k hk => by cases hk; exact Nat.le_refl _)
theorem own_only {w w' : World} {base e size n c : Nat} {v : Value} {xs : List Value} (h : w.ownsRow base e size v n xs) (k : Only c w w') (hc : c < base) : w'.ownsRow base e size v n xs :=
  World.ownsRow.kept h (row := some c) ⟨k.os, k.tape, k.output, k.size, fun i hi hne => k.block i hi (fun e => hne (by rw [e]))⟩ (by
    cases hv : v.ownBlock with
    | none => exact .inl rfl
    | some g => exact .inr (fun e => by have := (World.ownsRow.lt h g hv).1; cases e; omega))
theorem own_far {w : World} {base e size n c : Nat} {v : Value} {xs : List Value} (h : w.ownsRow base e size v n xs) (hc : c < base) : ∀ k, v.ownBlock = some k → c + 1 ≤ k := fun k hk => by
  have := (World.ownsRow.lt h k hk).1; omega
theorem far_own {w : World} {base e size n g : Nat} {v : Value} {xs : List Value} (h : w.ownsRow base e size v n xs) (hg : g < base) : some g ≠ v.ownBlock := fun e => by
  have := (World.ownsRow.lt h g e.symm).1; omega
theorem only_grown {w0 w w' : World} {c : Nat} {row : Option Nat} (o : Only c w0 w) (g : w.grownBy w' row) (hr : ∀ k, row = some k → w0.heap.size ≤ k) : Only c w0 w' :=
  ⟨g.os.trans o.os, g.tape.trans o.tape, g.output.trans o.output, Nat.le_trans o.size g.size, fun k hk hc => (g.block k (Nat.lt_of_lt_of_le hk o.size) (fun e => by have := hr k e.symm; omega)).trans (o.block k hk hc)⟩
theorem cur_grown {Bb c : Nat} {w w' : World} {a : Option Addr} {len cap : Nat} {row : Option Nat} (h : Cur Bb w c a len cap) (g : w.grownBy w' row) (hr : ∀ k, row = some k → c + 1 ≤ k) : Cur Bb w' c a len cap :=
  h.kept ⟨g.os, g.tape, g.output, g.size, fun k hk => g.block k (Nat.lt_of_lt_of_le hk h.lt) (fun e => by have := hr k e.symm; omega)⟩
theorem one_new (w : World) (b : UInt8) : ∀ j u, (bcells [b])[j]? = some u → (w.alloc (.cells #[.int .u8 (b.toNat : Int)] 5)).cell? ((⟨w.heap.size, 0, none⟩ : Addr).add j) = some u := by
  intro j u hj
  match j, hj with
  | 0, hj => simp at hj; subst hj; simp [Addr.add]
/-- An append onto a row of one's own, as one step of a region that draws its order. -/
theorem step_append_own {P : Program} {ops : Array Oper} {o : Oper} {a : Act} {w : World} {K : Act → World → Prop} {Q : Exit → Act → World → Prop} {E : Prop}
    (hg : o.guard = none) (s x : Operand) (t : TypeId) (hop : o.op = Op.call { callee := Callee.builtin Builtin.append, args := #[s, x], argTypes := #[t, t] })
    (base : Nat) (e : TypeId) (i : TypeInfo) (z : Value) (size bytes : Nat) (h1 : P.underlying t = some (.slice e)) (h2 : P.info? e = some i) (h3 : i.zero = some z) (h4 : i.size = size) (h5 : i.bytes = bytes) (h6 : z.cells.size = size) (h7 : 0 < size)
    (v : Value) (n : Nat) (xs : List Value) (hs : a.eval s = v) (hown : w.ownsRow base e size v n xs)
    (ad : Addr) (m c : Nat) (news : List Value) (hx : a.eval x = .slice (some ad) m c) (hn : news.length = m * size) (hc : ∀ j u, news[j]? = some u → w.cell? (ad.add j) = some u) (h1c : ∀ u ∈ news, u.oneCell' = true)
    (b1 : n + m ≤ maxLen) (b2 : (n + m) * bytes ≤ 140737488355328) (hb : base ≤ w.heap.size)
    (hK : ∀ v' w', w'.ownsRow base e size v' (n + m) (xs ++ news) → w.grownBy w' v.ownBlock → K (a.put o.dst v') w') :
    if Region.wanted o (yielded ops a.tmps) = true then Oper.wp P o a w K Q else E := by
  have hw : Region.wanted o (yielded ops a.tmps) = true := by simp [Region.wanted, hg]
  rw [if_pos hw]
  obtain ⟨v', w', hrun, r1, r2, _⟩ := run_append_own (P := P) w base t o.type e i z size bytes h1 h2 h3 h4 h5 h6 h7 v n xs hown ad m c news hn hc h1c b1 b2 hb
  unfold Oper.wp
  simp [execOp, hop, resolve, invoke, builtin, hs, hx, hrun, Result.andThen]
  exact hK v' w' r1 r2
theorem info8 : (Tryd.prog.info? 5).map (fun i => (i.zero, i.size, i.bytes)) = some (some (.int .u8 0), 1, 1) := by kernel_rfl
abbrev signs : ByteArray := ⟨#[97, 46, 45, 65, 48, 42]⟩
set_option maxRecDepth 100000 in
set_option maxHeartbeats 4000000 in
theorem l1Bend_any (Bb c : Nat) (a : Option Addr) (len cap : Nat) (s : ByteArray) (w : World) (hC : Cur Bb w c a len cap) (hs : s.size ≤ 1000) :
    Calls Tryd.prog 20 #[.pointer (some ⟨c, 0, none⟩), .string s, .string signs] w fun e w' => ∃ t : ByteArray, t.size ≤ 1002 ∧ e = .returned (.string t) ∧ Cur Bb w' c a len cap ∧ Only c w w' := by
  have hlt := hC.lt
  have HC := hidIt hC
  clear hC
  obtain ⟨i0, hi, hz0, hz1, hz2⟩ := info_parts info8
  obtain ⟨w1, v1, hcv, hb1, hrw1⟩ := bytes_new w s
  have HR1 := hidIt hrw1
  have C1 := hidIt (HC.out.kept (hb1.mono hlt))
  have O1 := hidIt (Only.of_below (c := c) hb1)
  clear hb1 hrw1 HC
  go_enter Tryd.func20, Tryd.ntmps20
  go_wp2_with (fail)
  refine (l1Below_any Bb c a len cap 3 _ (by decide) C1.out).mono ?_
  rintro e w2 ⟨x, x0, x1, rfl, hC2, hO2⟩
  obtain ⟨xn, rfl⟩ := Int.eq_ofNat_of_zero_le x0
  have HR2 := hidIt (HR1.out.only hO2 hlt)
  have C2 := hidIt hC2
  have O2 := hidIt (O1.out.trans hO2)
  clear hC2 hO2 HR1 C1 O1 hcv
  go_wp2_with (fail)
  go_loopw [7, 8] (fun y z wx => ∃ (n : Nat) (l : Bytes), z = .int .i64 n ∧ n ≤ 2 ∧ n + l.length ≤ 1002 ∧ Rw wx w.heap.size y l ∧ Cur Bb wx c a len cap ∧ Only c w wx) (fun _ z _ => (intOf z).toNat)
  case atStart => exact ⟨xn, bs s, rfl, by omega, by rw [bs_length]; omega, HR2.out, C2.out, O2.out⟩
  case round =>
    obtain ⟨n, l, rfl, hn2, hn, hS, hCr, hOr⟩ := hrel
    have HS := hidIt hS
    have HCr := hidIt hCr
    have HOr := hidIt hOr
    clear hS hCr hOr HR2 C2 O2
    by_cases h0 : 0 < n ∧ 0 < l.length
    · obtain ⟨h0n, h0l⟩ := h0
      have h1' : (0 : Int) < n := by omega
      have h2n : (n : Int) ≤ 2 := by omega
      obtain ⟨g, cp, hform, hcp, hgb, hbt⟩ : ∃ g cp, u7 = .slice (some ⟨g, 0, none⟩) l.length cp ∧ l.length ≤ cp ∧ w.heap.size ≤ g ∧ Bt wr g l := by
        rcases HS.out with ⟨_, e⟩ | h
        · rw [e] at h0l; simp at h0l
        · exact h
      subst hform
      have HT := hidIt hbt
      obtain ⟨m, hm⟩ : ∃ m, l.length = m := ⟨_, rfl⟩
      have HM := hidIt hm
      rw [hm] at hcp h0l hn ⊢
      clear hbt HS hm
      have h3' : (0 : Int) < (m : Int) := by omega
      go_wp2_with (fail)
      refine (l1Below_any Bb c a len cap (m : Int) _ h3' HCr.out).mono ?_
      rintro e w3 ⟨y, y0, y1, rfl, hC3, hO3⟩
      obtain ⟨k, rfl⟩ := Int.eq_ofNat_of_zero_le y0
      have HT3 := hidIt (HT.out.only hO3 (by omega))
      have C3 := hidIt hC3
      have O3 := hidIt (HOr.out.trans hO3)
      clear hC3 hO3 HT HCr HOr
      go_wp2_with (fail)
      refine (l1Below_any Bb c a len cap 4 _ (by decide) C3.out).mono ?_
      rintro e w4 ⟨z, z0, z1, rfl, hC4, hO4⟩
      have HT4 := hidIt (HT3.out.only hO4 (by omega))
      have C4 := hidIt hC4
      have O4 := hidIt (O3.out.trans hO4)
      clear hC4 hO4 HT3 C3 O3
      have hz : z = 0 ∨ z = 1 ∨ z = 2 ∨ z = 3 := by omega
      clear z0 z1
      have k0 : k < m := by omega
      have k1 : (k : Int) < (m : Int) := by omega
      have k2 : (k : Int) ≤ (cp : Int) := by omega
      rcases hz with rfl | rfl | rfl | rfl
      · go_wp2_with (fail)
        refine (l1Below_any Bb c a len cap 6 _ (by decide) C4.out).mono ?_
        rintro e w5 ⟨q, q0, q1, rfl, hC5, hO5⟩
        obtain ⟨j, rfl⟩ := Int.eq_ofNat_of_zero_le q0
        have HT5 := hidIt (HT4.out.only hO5 (by omega))
        have C5 := hidIt hC5
        have O5 := hidIt (O4.out.trans hO5)
        clear hC5 hO5 HT4 C4 O4
        have hj : j < 6 := by omega
        have c0 := HT5.out.cell k (by rw [HM.out]; exact k0)
        have f0 := HT5.out.free k (by rw [HM.out]; exact k0)
        go_wp2_with (fail)
        have hb := HT5.out.set (k := k) (by rw [HM.out]; exact k0) (signs[j])
        refine ⟨⟨n - 1, l.set k (signs[j]), ?_, by omega, by rw [List.length_set, HM.out]; omega, .inr ⟨g, cp, by rw [List.length_set, HM.out], by rw [List.length_set, HM.out]; omega, hgb, hb⟩, C5.out.kept ((Below.refl (c + 1) w5).setCell (by simp; omega) _), O5.out.setNew (by simpa using hgb) _⟩, by simp [intOf]; omega⟩
        congr 1
        omega
      · go_wp2_with (fail)
        refine ⟨⟨n - 1, l.take k, ?_, by omega, by rw [List.length_take]; omega, .inr ⟨g, cp, ?_, by rw [List.length_take]; omega, hgb, HT4.out.take k⟩, C4.out, O4.out⟩, by simp [intOf]; omega⟩
        · congr 1
          omega
        · rw [List.length_take, HM.out, Nat.min_eq_left (by omega)]
      · go_wp2_with (fail)
        have g1 : IntKind.i64.wrap ((k : Int) + 1) = (k : Int) + 1 := by rw [IntKind.wrap_i64]; omega
        have g2 : (0 : Int) ≤ (k : Int) + 1 := by omega
        have g3 : (k : Int) + 1 ≤ (m : Int) := by omega
        have g4 : (m : Int) ≤ (cp : Int) := by omega
        have HE := hidIt (own_drew (own_empty w4))
        have HTa := hidIt ((HT4.out.alloc (.cells #[] 5)).drew)
        have g5 : Hid (some g ≠ some w4.heap.size) := hidIt (fun e => by have := HT4.out.lt; cases e; omega)
        have HLk : Hid ((bcells ((l.drop 0).take k)).length = k * 1) := hidIt (by rw [List.length_map, List.length_take, List.length_drop, HM.out]; omega)
        have HLr : Hid ((bcells ((l.drop (k + 1)).take (m - (k + 1)))).length = (m - (k + 1)) * 1) := hidIt (by rw [List.length_map, List.length_take, List.length_drop, HM.out]; omega)
        by_cases hcpk : cp = k + 1
        · subst hcpk
          have g6 : (k : Int) ≤ (k : Int) + 1 := by omega
          have g7 : (m : Int) ≤ (k : Int) + 1 := by omega
          have HLz : Hid ((bcells []).length = 0 * 1) := hidIt rfl
          go_region_held3 (fun w' => True) (trivial)
            (first
              | (refine step_append_own (by rfl) (.tmp 47) (.tmp 50) 22 (by rfl) w4.heap.size 5 i0 (.int .u8 0) 1 1 Tryd.underlying22 hi hz0 hz1 hz2 rfl (by decide) (.slice (some ⟨w4.heap.size, 0, none⟩) 0 0) 0 (bcells []) (by simp [Act.eval]) HE.out ⟨g, 0, none⟩ k (k + 1) (bcells ((l.drop 0).take k)) (by simp [Act.eval]) HLk.out (HTa.out.news 0 k) (bcells_one _) (by unfold maxLen; omega) (by omega) (by simp) ?_; intro v5 w5 ho5 hg5)
              | (refine step_append_own (by rfl) (.tmp 51) (.tmp 55) 22 (by rfl) w4.heap.size 5 i0 (.int .u8 0) 1 1 Tryd.underlying22 hi hz0 hz1 hz2 rfl (by decide) v5 (0 + k) _ (by simp [Act.eval]) ho5 ⟨g, 0, none⟩ 0 0 (bcells []) (by simp [Act.eval]) HLz.out (fun j u hu => by simp at hu) (bcells_one _) (by unfold maxLen; omega) (by omega) (by have := hg5.size; simp at this; omega) ?_; intro v6 w6 ho6 hg6))
          have hB5 : Below w4.heap.size w4 w5 := (((Below.refl _ w4).alloc (Nat.le_refl _) _).drew).grown hg5 (by simp) (fun k hk => by cases hk; exact Nat.le_refl _)
          have hB6 := hidIt (hB5.grown hg6 hB5.size (fun k hk => (World.ownsRow.lt ho5 k hk).1))
          have HR6 := hidIt (Rw.of_own (rw_cells (a := (l.drop 0).take k) (b := []) ho6))
          clear ho5 hg5 ho6 hg6 hB5
          go_wp2_with (fail)
          refine ⟨⟨n - 1, _, ?_, by omega, ?_, HR6.out.mono O4.out.size, C4.out.kept (hB6.out.mono C4.out.lt), O4.out.trans (Only.of_below hB6.out)⟩, by simp [intOf]; omega⟩
          · congr 1
            omega
          · rw [List.length_append, List.length_take, List.length_drop, HM.out]
            simp
            omega
        · go_region_held3 (fun w' => True) (trivial)
            (first
              | (refine step_append_own (by rfl) (.tmp 47) (.tmp 50) 22 (by rfl) w4.heap.size 5 i0 (.int .u8 0) 1 1 Tryd.underlying22 hi hz0 hz1 hz2 rfl (by decide) (.slice (some ⟨w4.heap.size, 0, none⟩) 0 0) 0 (bcells []) (by simp [Act.eval]) HE.out ⟨g, 0, none⟩ k cp (bcells ((l.drop 0).take k)) (by simp [Act.eval]) HLk.out (HTa.out.news 0 k) (bcells_one _) (by unfold maxLen; omega) (by omega) (by simp) ?_; intro v5 w5 ho5 hg5)
              | (refine step_append_own (by rfl) (.tmp 51) (.tmp 55) 22 (by rfl) w4.heap.size 5 i0 (.int .u8 0) 1 1 Tryd.underlying22 hi hz0 hz1 hz2 rfl (by decide) v5 (0 + k) _ (by simp [Act.eval]) ho5 ⟨g, k + 1, none⟩ (m - (k + 1)) (cp - (k + 1)) (bcells ((l.drop (k + 1)).take (m - (k + 1)))) (by simp [Act.eval]) HLr.out ((HTa.out.grown hg5 g5.out).news (k + 1) _) (bcells_one _) (by unfold maxLen; omega) (by omega) (by have := hg5.size; simp at this; omega) ?_; intro v6 w6 ho6 hg6))
          have hB5 : Below w4.heap.size w4 w5 := (((Below.refl _ w4).alloc (Nat.le_refl _) _).drew).grown hg5 (by simp) (fun k hk => by cases hk; exact Nat.le_refl _)
          have hB6 := hidIt (hB5.grown hg6 hB5.size (fun k hk => (World.ownsRow.lt ho5 k hk).1))
          have HR6 := hidIt (Rw.of_own (rw_cells (a := (l.drop 0).take k) (b := (l.drop (k + 1)).take (m - (k + 1))) ho6))
          clear ho5 hg5 ho6 hg6 hB5
          go_wp2_with (fail)
          refine ⟨⟨n - 1, _, ?_, by omega, ?_, HR6.out.mono O4.out.size, C4.out.kept (hB6.out.mono C4.out.lt), O4.out.trans (Only.of_below hB6.out)⟩, by simp [intOf]; omega⟩
          · congr 1
            omega
          · rw [List.length_append, List.length_take, List.length_drop, HM.out]
            rw [List.length_take, List.length_drop, HM.out]
            omega
      · go_wp2_with (fail)
        have g3 : (k : Int) ≤ (m : Int) := by omega
        have g4 : (m : Int) ≤ (cp : Int) := by omega
        have g6 : ¬ cp = k := by omega
        have HE := hidIt (own_drew (own_empty w4))
        have HTa := hidIt ((HT4.out.alloc (.cells #[] 5)).drew)
        have g5 : Hid (some g ≠ some w4.heap.size) := hidIt (fun e => by have := HT4.out.lt; cases e; omega)
        have HLk : Hid ((bcells ((l.drop 0).take k)).length = k * 1) := hidIt (by rw [List.length_map, List.length_take, List.length_drop, HM.out]; omega)
        have HLr : Hid ((bcells ((l.drop k).take (m - k))).length = (m - k) * 1) := hidIt (by rw [List.length_map, List.length_take, List.length_drop, HM.out]; omega)
        go_region_held3 (fun w' => True) (trivial)
          (first
            | (refine step_append_own (by rfl) (.tmp 59) (.tmp 62) 22 (by rfl) w4.heap.size 5 i0 (.int .u8 0) 1 1 Tryd.underlying22 hi hz0 hz1 hz2 rfl (by decide) (.slice (some ⟨w4.heap.size, 0, none⟩) 0 0) 0 (bcells []) (by simp [Act.eval]) HE.out ⟨g, 0, none⟩ k cp (bcells ((l.drop 0).take k)) (by simp [Act.eval]) HLk.out (HTa.out.news 0 k) (bcells_one _) (by unfold maxLen; omega) (by omega) (by simp) ?_; intro v5 w5 ho5 hg5; have hB5 := hidIt (bend5 hg5); have HT5 := hidIt (HTa.out.grown hg5 g5.out); have HO5 := hidIt ho5; clear ho5 hg5)
            | (go_at_call 30; refine (l1Below_any Bb c a len cap 6 _ (by decide) (C4.out.kept (hB5.out.mono C4.out.lt))).mono ?_; rintro e w6 ⟨q, q0, q1, rfl, hC6, hO6⟩; obtain ⟨j, rfl⟩ := Int.eq_ofNat_of_zero_le q0; have hj6 : j < 6 := (by omega); have HO6 := hidIt (own_only HO5.out hO6 (Nat.lt_of_lt_of_le hlt O4.out.size)); have HT6 := hidIt (HT5.out.only hO6 (by omega)); have C6 := hidIt hC6; have P6 := hidIt ((Only.of_below (c := c) hB5.out).trans hO6); clear hC6 hO6 HO5 HT5 hB5)
            | (refine step_append_own (by rfl) (.tmp 63) (.tmp 70) 22 (by rfl) w4.heap.size 5 i0 (.int .u8 0) 1 1 Tryd.underlying22 hi hz0 hz1 hz2 rfl (by decide) v5 (0 + k) _ (by simp [Act.eval]) (World.ownsRow.alloc HO6.out _) ⟨w6.heap.size, 0, none⟩ 1 1 (bcells [signs[j]]) (by simp [Act.eval]) rfl (one_new _ _) (bcells_one _) (by unfold maxLen; omega) (by omega) (by have := P6.out.size; simp; omega) ?_; intro v7 w7 ho7 hg7; have HT7 := hidIt ((HT6.out.alloc _).grown hg7 (far_own HO6.out HT4.out.lt)); have C7 := hidIt (cur_grown (C6.out.kept ((Below.refl _ _).alloc C6.out.lt _)) hg7 (own_far HO6.out (Nat.lt_of_lt_of_le hlt O4.out.size))); have P7 := hidIt (only_grown (P6.out.alloc _) hg7 (fun k hk => (World.ownsRow.lt HO6.out k hk).1)); clear HO6 HT6 C6 P6 hg7)
            | (refine step_append_own (by rfl) (.tmp 71) (.tmp 74) 22 (by rfl) w4.heap.size 5 i0 (.int .u8 0) 1 1 Tryd.underlying22 hi hz0 hz1 hz2 rfl (by decide) v7 (0 + k + 1) _ (by simp [Act.eval]) ho7 ⟨g, k, none⟩ (m - k) (cp - k) (bcells ((l.drop k).take (m - k))) (by simp [Act.eval]) HLr.out (HT7.out.news k _) (bcells_one _) (by unfold maxLen; omega) (by omega) P7.out.size ?_; intro v8 w8 ho8 hg8))
        have C8 := hidIt (cur_grown C7.out hg8 (own_far ho7 (Nat.lt_of_lt_of_le hlt O4.out.size)))
        have P8 := hidIt (only_grown P7.out hg8 (fun k hk => (World.ownsRow.lt ho7 k hk).1))
        have HR8 := hidIt (Rw.of_own (rw_cells (a := (l.drop 0).take k ++ [signs[j]]) (b := (l.drop k).take (m - k)) (rw_cells3 ho8)))
        clear ho7 hg8 ho8
        go_wp2_with (fail)
        refine ⟨⟨n - 1, _, ?_, by omega, ?_, HR8.out.mono O4.out.size, C8.out, O4.out.trans P8.out⟩, by simp [intOf]; omega⟩
        · congr 1
          omega
        · rw [List.length_append, List.length_append, List.length_take, List.length_drop, List.length_take, List.length_drop, HM.out, List.length_singleton]
          omega
    · have hcv := HS.out.back
      have hsz : (B l).size ≤ 1002 := by rw [B_size]; omega
      generalize B l = t at hcv hsz
      by_cases h1 : 0 < n
      · have h1' : (0 : Int) < n := by omega
        have hl0 : l.length = 0 := by omega
        have hform : ∃ a' c', u7 = .slice a' 0 c' := by
          rcases HS.out with ⟨e, _⟩ | ⟨g, cp, e, _⟩
          · exact ⟨none, 0, e⟩
          · exact ⟨_, cp, by rw [e, hl0]⟩
        obtain ⟨a', c', rfl⟩ := hform
        go_wp2_with (fail)
        go_ret
        exact ⟨_, hsz, rfl, HCr.out, HOr.out⟩
      · have h1' : ¬ (0 : Int) < n := by omega
        have h1'' : decide ((0 : Int) < n) = false := by simp; omega
        go_wp2_with (fail)
        go_ret
        exact ⟨_, hsz, rfl, HCr.out, HOr.out⟩
end Go.Proofs.YtdgnjhppggemhaaDoor.Nm
