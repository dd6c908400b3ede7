/-
  What the program's rests hold, as two lists; next over it; restsOf.
-/
import Derived.Test.YtkkbccppfppalaaHepL
namespace Go.Proofs.Ytkkbccppfppalaa.En
open Go.ChangeShapes Go.WideShapes Go.ChangeAt Go.RowKit
open Go.Proofs.Ytkkbccppfppalaa.Bk (Bytes okE newB okBk Ris IsJoin joinB lessE Mg putE)
set_option linter.unusedVariables false
/-- A rest that came in: it lies below base. -/
structure El (w : World) (base p o k : Nat) (X : List Rw) : Prop where
  rd : Rd w (some ⟨p, o, none⟩) X
  lt : p < base
  pos : 0 < X.length
  cap : X.length ≤ k
theorem El.fr {w w' : World} {base p o k b g : Nat} {X : List Rw} (h : El w base p o k X) (f : Fr b g w w') (hb : base ≤ b) (hg : base ≤ g) : El w' base p o k X :=
  ⟨h.rd.fr f (by have := h.lt; omega) (by have := h.lt; omega), h.lt, h.pos, h.cap⟩
theorem El.low {w w' : World} {base p o k : Nat} {X : List Rw} (h : El w base p o k X) (f : Below base w w') : El w' base p o k X :=
  ⟨h.rd.kept' f h.lt, h.lt, h.pos, h.cap⟩
structure Sta.Rules (w : World) (base b g : Nat) (C : List Rw → List Rw → Prop) : Prop where
  zero : ∀ (a : Option Addr) (cap : Nat), w.cell? ⟨b, 0, none⟩ = some (.slice a 0 cap) → C [] []
  one : ∀ (cap p o k : Nat) (X : List Rw) (u : Value), Hp w b g cap 1 (sv p o X.length k) u → cap ≤ maxLen → El w base p o k X → C X []
  two : ∀ (cap p0 o0 k0 p1 o1 k1 : Nat) (X Y : List Rw), Hp w b g cap 2 (sv p0 o0 X.length k0) (sv p1 o1 Y.length k1) → cap ≤ maxLen → El w base p0 o0 k0 X → El w base p1 o1 k1 Y → lessE (toE (rat Y 0)) (toE (rat X 0)) = false → C X Y
/-- The rests at block b hold X on top and Y. -/
def Sta (w : World) (base b g : Nat) (X : List Rw) (Y : List Rw) : Prop := ∀ C, Sta.Rules w base b g C → C X Y
theorem Sta.zero {w : World} {base b g : Nat} (a : Option Addr) (cap : Nat) (h0 : w.cell? ⟨b, 0, none⟩ = some (.slice a 0 cap)) : Sta w base b g [] [] := fun _ r => r.zero a cap h0
theorem Sta.one {w : World} {base b g : Nat} (cap p o k : Nat) (X : List Rw) (u : Value) (h0 : Hp w b g cap 1 (sv p o X.length k) u) (h1 : cap ≤ maxLen) (h2 : El w base p o k X) : Sta w base b g X [] := fun _ r => r.one cap p o k X u h0 h1 h2
theorem Sta.two {w : World} {base b g : Nat} (cap p0 o0 k0 p1 o1 k1 : Nat) (X Y : List Rw) (h0 : Hp w b g cap 2 (sv p0 o0 X.length k0) (sv p1 o1 Y.length k1)) (h1 : cap ≤ maxLen) (h2 : El w base p0 o0 k0 X) (h3 : El w base p1 o1 k1 Y) (h4 : lessE (toE (rat Y 0)) (toE (rat X 0)) = false) : Sta w base b g X Y := fun _ r => r.two cap p0 o0 k0 p1 o1 k1 X Y h0 h1 h2 h3 h4
theorem Sta.elim {w : World} {base b g : Nat} {motive : ∀ X Y, Sta w base b g X Y → Prop}
    (zero : ∀ (a : Option Addr) (cap : Nat) (h0 : w.cell? ⟨b, 0, none⟩ = some (.slice a 0 cap)), motive [] [] (.zero a cap h0))
    (one : ∀ (cap p o k : Nat) (X : List Rw) (u : Value) (h0 : Hp w b g cap 1 (sv p o X.length k) u) (h1 : cap ≤ maxLen) (h2 : El w base p o k X), motive X [] (.one cap p o k X u h0 h1 h2))
    (two : ∀ (cap p0 o0 k0 p1 o1 k1 : Nat) (X Y : List Rw) (h0 : Hp w b g cap 2 (sv p0 o0 X.length k0) (sv p1 o1 Y.length k1)) (h1 : cap ≤ maxLen) (h2 : El w base p0 o0 k0 X) (h3 : El w base p1 o1 k1 Y) (h4 : lessE (toE (rat Y 0)) (toE (rat X 0)) = false), motive X Y (.two cap p0 o0 k0 p1 o1 k1 X Y h0 h1 h2 h3 h4)) {X Y} (t : Sta w base b g X Y) : motive X Y t :=
  t (fun X Y => ∀ t, motive X Y t) ⟨fun a cap h0 _ => zero a cap h0, fun cap p o k X u h0 h1 h2 _ => one cap p o k X u h0 h1 h2, fun cap p0 o0 k0 p1 o1 k1 X Y h0 h1 h2 h3 h4 _ => two cap p0 o0 k0 p1 o1 k1 X Y h0 h1 h2 h3 h4⟩ t
theorem Sta.kept {w w' : World} {base b g : Nat} {X Y : List Rw} (h : Sta w base b g X Y) (k : Below w.heap.size w w') : Sta w' base b g X Y := by
  have low : ∀ {p o c : Nat} {Z : List Rw}, El w base p o c Z → El w' base p o c Z := fun e => ⟨e.rd.kept k, e.lt, e.pos, e.cap⟩
  cases h using Sta.elim with
  | zero a cap h => exact .zero a cap (by rw [k.cell (by simpa using cell_block h)]; exact h)
  | one cap p o c X u h hc hx => exact .one cap p o c X u (h.kept k) hc (low hx)
  | two cap p0 o0 k0 p1 o1 k1 X Y h hc hx hy ht => exact .two cap p0 o0 k0 p1 o1 k1 X Y (h.kept k) hc (low hx) (low hy) ht
theorem lessE_asymm {a b : Bk.En} (h : lessE a b = true) : lessE b a = false := by
  unfold lessE at h ⊢
  rw [Bool.or_eq_true, decide_eq_true_eq, Bool.and_eq_true, decide_eq_true_eq] at h
  rcases h with h | ⟨h1, h2⟩
  · rw [decide_eq_false (fun k => List.lt_irrefl _ (List.lt_trans h k)), decide_eq_false (fun k => by rw [k] at h; exact List.lt_irrefl _ h)]
    rfl
  · rw [h1, decide_eq_false (List.lt_irrefl _), Bk.new_asymm h2]
    simp
theorem Sta.nil_right {w : World} {base b g : Nat} {Y : List Rw} (h : Sta w base b g [] Y) : Y = [] ∧ ∃ a cap, w.cell? ⟨b, 0, none⟩ = some (.slice a 0 cap) := by
  cases h using Sta.elim with
  | zero a cap h => exact ⟨rfl, a, cap, h⟩
  | one cap p o c X u h hc hx => have := hx.pos; simp at this
  | two cap p0 o0 k0 p1 o1 k1 X Y h hc hx hy ht => have := hx.pos; simp at this
theorem Sta.len {w : World} {base b g : Nat} {x : Rw} {X Y : List Rw} (h : Sta w base b g (x :: X) Y) : ∃ a n cap, w.cell? ⟨b, 0, none⟩ = some (.slice a n cap) ∧ 0 < n ∧ n ≤ 2 := by
  cases h using Sta.elim with
  | one cap p o c X u h hc hx => exact ⟨_, 1, _, h.me, by omega, by omega⟩
  | two cap p0 o0 k0 p1 o1 k1 X Y h hc hx hy ht => exact ⟨_, 2, _, h.me, by omega, by omega⟩
theorem Sta.top {w : World} {base b g : Nat} {x : Rw} {X Y : List Rw} (h : Sta w base b g (x :: X) Y) : ∀ y, (toB Y).head? = some y → lessE y (toE x) = false := by
  cases h using Sta.elim with
  | one cap p o c X u h hc hx => intro y hy; simp at hy
  | two cap p0 o0 k0 p1 o1 k1 X Y h hc hx hy ht =>
    intro y hy'
    cases Y with
    | nil => simp at hy'
    | cons y0 Y =>
      simp at hy'
      rw [← hy']
      exact ht
theorem next_any {w : World} {base b g : Nat} {x : Rw} {X Y : List Rw} (h : Sta w base b g (x :: X) Y) (hb : base ≤ b) (hg : base ≤ g) :
    Calls Try.prog 68 #[.pointer (some ⟨b, 0, none⟩)] w fun e w' => e = .returned (rv x) ∧ (Sta w' base b g X Y ∨ Sta w' base b g Y X) ∧ Fr b g w w' := by
  cases h using Sta.elim with
  | one cap p o c XX u h hc hx =>
    have q : p ≠ b ∧ p ≠ g := ⟨by have := hx.lt; omega, by have := hx.lt; omega⟩
    cases X with
    | nil =>
      refine (next_1last h hc hx.rd q).mono ?_
      rintro e w1 ⟨rfl, ⟨u0, u1, h1⟩, f1⟩
      exact ⟨rfl, .inl (.zero _ _ h1.me), f1⟩
    | cons y L =>
      refine (next_1more (m := L.length) h hc hx.rd q rfl hx.cap).mono ?_
      rintro e w1 ⟨rfl, ⟨u1, h1⟩, f1⟩
      have hx' := hx.fr f1 hb hg
      exact ⟨rfl, .inl (.one cap p (o + 5) (c - 1) (y :: L) u1 h1 hc ⟨hx'.rd.tail, hx.lt, by simp, by have := hx.cap; simp at this ⊢; omega⟩), f1⟩
  | two cap p0 o0 k0 p1 o1 k1 XX YY h hc hx hy ht =>
    have q : p0 ≠ b ∧ p0 ≠ g := ⟨by have := hx.lt; omega, by have := hx.lt; omega⟩
    have q1 : p1 ≠ b ∧ p1 ≠ g := ⟨by have := hy.lt; omega, by have := hy.lt; omega⟩
    cases X with
    | nil =>
      refine (next_2last h hc hx.rd q).mono ?_
      rintro e w1 ⟨rfl, ⟨u1, h1⟩, f1⟩
      exact ⟨rfl, .inr (.one cap p1 o1 k1 Y u1 h1 hc (hy.fr f1 hb hg)), f1⟩
    | cons y L =>
      refine (next_2more (m := L.length) h hc hx.rd q rfl hx.cap hy.rd rfl hy.pos q1).mono ?_
      rintro e w1 ⟨rfl, h1, f1⟩
      have hx' := hx.fr f1 hb hg
      have hx2 : El w1 base p0 (o0 + 5) (k0 - 1) (y :: L) := ⟨hx'.rd.tail, hx.lt, by simp, by have := hx.cap; simp at this ⊢; omega⟩
      refine ⟨rfl, ?_, f1⟩
      cases hr : lessE (toE (rat Y 0)) (toE y) with
      | false => exact .inl (.two cap p0 (o0 + 5) (k0 - 1) p1 o1 k1 (y :: L) Y (h1.no hr) hc hx2 (hy.fr f1 hb hg) hr)
      | true => exact .inr (.two cap p1 o1 k1 p0 (o0 + 5) (k0 - 1) Y (y :: L) (h1.yes hr) hc (hy.fr f1 hb hg) hx2 (lessE_asymm hr))
theorem Rs.low {w w' : World} {base b : Nat} {xs : List Value} (h : Rs w base b xs) (k : Below w.heap.size w w') : Rs w' base b xs := by
  obtain ⟨le, v, hb, ho⟩ := h
  exact ⟨le, v, (k.block b (Array.getElem?_eq_some_iff.1 hb).1).trans hb, World.ownsRow.kept (row := none) ho ⟨k.os, k.tape, k.output, k.size, fun i hi _ => k.block i hi⟩ (by cases v.ownBlock <;> simp)⟩
theorem Rs.zero {w : World} {base b : Nat} (h : Rs w base b []) : ∃ a cap, w.cell? ⟨b, 0, none⟩ = some (.slice a 0 cap) := by
  obtain ⟨le, v, hb, ho⟩ := h
  have c : w.cell? ⟨b, 0, none⟩ = some v := by rw [Go.Lib.cell_of_heap hb]; rfl
  rcases ho.2 with ⟨e, _⟩ | ⟨g, cap, cur, e, _⟩
  · exact ⟨_, _, by rw [c, e]⟩
  · exact ⟨_, _, by rw [c, e]; rfl⟩
theorem Rs.start (w : World) : Rs ((w.alloc (.cells #[] 40)).alloc (.cells #[.slice (some ⟨w.heap.size, 0, none⟩) 0 0] 88)) w.heap.size (w.heap.size + 1) [] := by
  refine ⟨by omega, .slice (some ⟨w.heap.size, 0, none⟩) 0 0, ?_, ?_⟩
  · have := heap_alloc_new (w.alloc (.cells #[] 40)) (.cells #[.slice (some ⟨w.heap.size, 0, none⟩) 0 0] 88)
    simpa using this
  · have h0 : (w.alloc (.cells #[] 40)).ownsRow w.heap.size 40 1 (.slice (some ⟨w.heap.size, 0, none⟩) 0 0) 0 [] := World.ownsRow_made w #[] 0 (Nat.le_refl _) (by decide) rfl
    exact World.ownsRow.alloc h0 _
/-- What restsOf has made of the first book. -/
def Half (w : World) (base b : Nat) (a : Option Addr) (ca : Nat) (A : List Rw) : Prop := (A = [] ∧ Rs w base b []) ∨ (A ≠ [] ∧ ∃ p o, a = some ⟨p, o, none⟩ ∧ Rs w base b [sv p o A.length ca])
/-- What restsOf has made of two books. -/
def Made (w : World) (base b : Nat) (A B : List Rw) : Prop := ∃ g X Y, base ≤ g ∧ Sta w base b g X Y ∧ g < w.heap.size ∧ ((X = A ∧ Y = B) ∨ (X = B ∧ Y = A))
theorem made_two {w : World} {base b g cap p0 o0 k0 p1 o1 k1 : Nat} {A B : List Rw} (hg : base ≤ g) (hc : cap ≤ maxLen) (t : Two w b g cap (lessE (toE (rat B 0)) (toE (rat A 0))) (sv p0 o0 A.length k0) (sv p1 o1 B.length k1)) (hA : El w base p0 o0 k0 A) (hB : El w base p1 o1 k1 B) : Made w base b A B := by
  cases hr : lessE (toE (rat B 0)) (toE (rat A 0)) with
  | false => exact ⟨g, A, B, hg, .two cap p0 o0 k0 p1 o1 k1 A B (t.no hr) hc hA hB hr, (t.no hr).gl, .inl ⟨rfl, rfl⟩⟩
  | true => exact ⟨g, B, A, hg, .two cap p1 o1 k1 p0 o0 k0 B A (t.yes hr) hc hB hA (lessE_asymm hr), (t.yes hr).gl, .inr ⟨rfl, rfl⟩⟩
theorem made_one {w : World} {base b p o k : Nat} {A : List Rw} (h : Rs w base b [sv p o A.length k]) (hA : El w base p o k A) : Made w base b A [] := by
  obtain ⟨g, cap, hg, hc, hp⟩ := h.hp (by simp)
  exact ⟨g, A, [], hg, .one cap p o k A _ hp hc hA, hp.gl, .inl ⟨rfl, rfl⟩⟩
theorem made_swap {w : World} {base b : Nat} {A B : List Rw} (h : Made w base b A B) : Made w base b B A := by
  obtain ⟨g, X, Y, h1, h2, h3, h4⟩ := h
  exact ⟨g, X, Y, h1, h2, h3, h4.symm⟩
theorem made_none {w : World} {base b : Nat} (h : Rs w base b []) (hl : base < w.heap.size) : Made w base b [] [] := by
  obtain ⟨a, cap, hc⟩ := h.zero
  exact ⟨base, [], [], Nat.le_refl _, .zero a cap hc, hl, .inl ⟨rfl, rfl⟩⟩
theorem el_of {w : World} {a : Option Addr} {c : Nat} {A : List Rw} (h : Rd w a A) (hl : A ≠ []) (hc : A.length ≤ c) : ∃ p o, a = some ⟨p, o, none⟩ ∧ El w w.heap.size p o c A := by
  have hp : 0 < A.length := List.length_pos_iff.2 hl
  obtain ⟨p, o, e, hcell⟩ := h.cell 0 hp
  subst e
  exact ⟨p, o, rfl, h, cell_block (hcell 0 (by omega)), hp, hc⟩
set_option maxRecDepth 100000 in
set_option maxHeartbeats 4000000 in
theorem impl_restsOf {w : World} {q ca cb : Nat} {a b : Option Addr} {A B : List Rw} (hq : w.cell? ⟨q, 0, none⟩ = some (.slice a A.length ca) ∧ w.cell? ⟨q, 1, none⟩ = some (.slice b B.length cb)) (hA : Rd w a A) (hB : Rd w b B) (la : A.length ≤ ca) (lb : B.length ≤ cb) :
    Calls Try.prog 51 #[.slice (some ⟨q, 0, none⟩) 2 2] w fun e w' => e = .returned (.pointer (some ⟨w.heap.size + 1, 0, none⟩)) ∧ Made w' w.heap.size (w.heap.size + 1) A B ∧ Below w.heap.size w w' := by
  obtain ⟨hq0, hq1⟩ := hq
  have hql := cell_block hq0
  have Q0 := hidIt (fun W (k : Below w.heap.size w W) => (k.cell (p := ⟨q, 0, none⟩) hql).trans hq0)
  have Q1 := hidIt (fun W (k : Below w.heap.size w W) => (k.cell (p := ⟨q, 1, none⟩) hql).trans hq1)
  have HS := hidIt (Rs.start w)
  have HB0 := hidIt (((Below.refl w.heap.size w).alloc (Nat.le_refl _) (.cells #[] 40)).alloc (by simp) (.cells #[.slice (some ⟨w.heap.size, 0, none⟩) 0 0] 88))
  have HEA := hidIt (fun h => el_of hA h la)
  have HEB := hidIt (fun h => el_of hB h lb)
  clear hq0 hq1 hql hA hB la lb
  go_enter Try.func51, Try.ntmps51
  go_wp2_with (fail)
  have HW0 : Hid (w.heap.size < ((w.alloc (.cells #[] 40)).alloc (.cells #[.slice (some ⟨w.heap.size, 0, none⟩) 0 0] 88)).heap.size) := hidIt (by simp; omega)
  generalize (w.alloc (.cells #[] 40)).alloc (.cells #[.slice (some ⟨w.heap.size, 0, none⟩) 0 0] 88) = w1 at HS HB0 HW0 ⊢
  go_loopw [10] (fun y wx => (y = .int .i64 0 ∧ Hid (wx = w1)) ∨ (y = .int .i64 1 ∧ Hid (Half wx w.heap.size (w.heap.size + 1) a ca A) ∧ Hid (Below w.heap.size w wx) ∧ Hid (w.heap.size < wx.heap.size)) ∨ (y = .int .i64 2 ∧ Hid (Made wx w.heap.size (w.heap.size + 1) A B) ∧ Hid (Below w.heap.size w wx))) (fun y _ => (2 - intOf y).toNat)
  case atStart => exact .inl ⟨rfl, hidIt rfl⟩
  case round =>
    rcases hrel with ⟨rfl, HW⟩ | ⟨rfl, HA, HB, HZ⟩ | ⟨rfl, HM, HB⟩
    · have ew := HW.out
      subst ew
      have c0 := Q0.out _ HB0.out
      by_cases hn : A = []
      · subst hn
        simp only [List.length_nil] at c0
        go_wp2_with (fail)
        exact ⟨.inr (.inl ⟨rfl, hidIt (.inl ⟨rfl, HS.out⟩), HB0, HW0⟩), by simp [intOf]⟩
      · obtain ⟨p, o, ea, eA⟩ := HEA.out hn
        subst ea
        have CP := hidIt (heap_Push0 (p := p) (o := o) (n := A.length) (c := ca) HS.out HB0.out.size)
        have hp := eA.pos
        have hp' : (0 : Int) < (A.length : Int) := by omega
        have HNA := hidIt hn
        clear hn
        go_wp2_with (fail)
        refine CP.out.mono ?_
        rintro e w2 ⟨rfl, r2, k2⟩
        have HR2 := hidIt r2
        have HB2 := hidIt (HB0.out.trans k2)
        have HZ2 := hidIt (Nat.lt_of_lt_of_le HW0.out k2.size)
        clear r2 k2
        go_wp2_with (fail)
        exact ⟨.inr (.inl ⟨rfl, hidIt (.inr ⟨HNA.out, p, o, rfl, HR2.out⟩), HB2, HZ2⟩), by simp [intOf]⟩
    · have c1 := Q1.out _ HB.out
      by_cases hn : B = []
      · subst hn
        simp only [List.length_nil] at c1
        have HM : Hid (Made wr w.heap.size (w.heap.size + 1) A []) := hidIt (by
          rcases HA.out with ⟨rfl, r⟩ | ⟨hn, p, o, ea, r⟩
          · exact made_none r HZ.out
          · obtain ⟨p', o', ea', eA⟩ := HEA.out hn
            rw [ea] at ea'
            cases ea'
            exact made_one r (eA.low HB.out))
        go_wp2_with (fail)
        exact ⟨.inr (.inr ⟨rfl, HM, HB⟩), by simp [intOf]⟩
      · obtain ⟨p, o, ea, eB⟩ := HEB.out hn
        subst ea
        have hp := eB.pos
        have hp' : (0 : Int) < (B.length : Int) := by omega
        have CP : Hid (Calls Try.prog 69 #[hI (w.heap.size + 1), .iface 40 (sv p o B.length cb)] wr fun e w' => e = .returned (.tuple #[]) ∧ Made w' w.heap.size (w.heap.size + 1) A B ∧ Below w.heap.size wr w') := hidIt (by
          rcases HA.out with ⟨hA0, r⟩ | ⟨hA1, p', o', ea, r⟩
          · refine (heap_Push0 (p := p) (o := o) (n := B.length) (c := cb) r HB.out.size).mono ?_
            rintro e w2 ⟨rfl, r2, k2⟩
            refine ⟨rfl, ?_, k2⟩
            rw [hA0]
            exact made_swap (made_one r2 (eB.low (HB.out.trans k2)))
          · obtain ⟨p2, o2, ea2, eA⟩ := HEA.out hA1
            rw [ea] at ea2
            cases ea2
            have eA1 := eA.low HB.out
            have eB1 := eB.low HB.out
            refine (heap_Push1 (L0 := A) (L1 := B) (k0 := ca) (k1 := cb) r HB.out.size eA1.rd eB1.rd rfl rfl eA1.pos eB1.pos eA1.lt eB1.lt).mono ?_
            rintro e w2 ⟨rfl, ⟨g, cap, hg, hc, t⟩, k2⟩
            exact ⟨rfl, made_two hg hc t (eA1.low k2) (eB1.low k2), k2⟩)
        clear hn HA HEA HEB
        go_wp2_with (fail)
        refine CP.out.mono ?_
        rintro e w2 ⟨rfl, r2, k2⟩
        have HR2 := hidIt r2
        have HB2 := hidIt (HB.out.trans k2)
        clear r2 k2
        go_wp2_with (fail)
        exact ⟨.inr (.inr ⟨rfl, HR2, HB2⟩), by simp [intOf]⟩
    · go_wp2_with (fail)
      go_ret
      exact ⟨rfl, HM.out, HB.out⟩
end Go.Proofs.Ytkkbccppfppalaa.En
