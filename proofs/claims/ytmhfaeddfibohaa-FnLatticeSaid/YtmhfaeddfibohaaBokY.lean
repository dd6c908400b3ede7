/-
  Where FnBooks' own loop stands: the book, what was written, the Entry, and what was under its Key.
-/
import Derived.Test.YtmhfaeddfibohaaBokX
import Derived.Test.YtmhfaeddfibohaaBokE
namespace Go.Proofs.Ytmhfaeddfibohaa.En
open Go.ChangeShapes Go.WideShapes Go.ChangeAt Go.RowKit
open Go.Proofs.Ytmhfaeddfibohaa.Bk (joinB valB okBk okE newB aliveB Wrote)
set_option linter.unusedVariables false
abbrev zR : Rw := (⟨#[]⟩, ⟨#[]⟩, 0, 0, false)
/-- What was under e's Key among the first i. -/
def Found (Lb : List Rw) (e : Rw) (i : Nat) (z : Rw) : Prop := (z = zR ∧ ∀ j, j < i → kat Lb j ≠ bs e.1) ∨ (∃ j, j < i ∧ j < Lb.length ∧ z = rat Lb j ∧ kat Lb j = bs e.1)
structure Wa (w0 wx : World) (ab aw : Option Addr) (Lb J : List Rw) (g4 g16 : Nat) (e : Rw) (i : Nat) : Prop where
  hb : Below w0.heap.size w0 wx
  rb : Rd wx ab Lb
  rj : Rd wx aw J
  be : Bo.Box wx g4 (x5 e)
  bw : ∃ z : Rw, Bo.Box wx g16 (x5 z) ∧ Found Lb e i z
  n4 : g4 < g16
  n0 : w0.heap.size ≤ g16
  nb : ∀ b off, ab = some ⟨b, off, none⟩ → Lb ≠ [] → b < g16
  nj : ∀ b off, aw = some ⟨b, off, none⟩ → J ≠ [] → b < g16
theorem blk_of {w : World} {a : Option Addr} {L : List Rw} (h : Rd w a L) {b off : Nat} (e : a = some ⟨b, off, none⟩) (hn : L ≠ []) : b < w.heap.size := by
  obtain ⟨b', off', e', c⟩ := h.cell 0 (List.length_pos_iff.2 hn)
  rw [e] at e'
  cases e'
  exact cell_block (c 0 (by omega))
theorem rd_only {w w' : World} {a : Option Addr} {L : List Rw} {g : Nat} (h : Rd w a L) (k : Only g w w') (hg : ∀ b off, a = some ⟨b, off, none⟩ → L ≠ [] → b < g) : Rd w' a L :=
  ⟨fun i hi => by
    obtain ⟨b, off, e, c⟩ := h.cell i hi
    have hb := hg b off e (by intro q; rw [q] at hi; simp at hi)
    exact ⟨b, off, e, fun j hj => by rw [k.cell (p := ⟨b, off + (i * 5 + j), none⟩) (cell_block (c j hj)) (by show b ≠ g; omega)]; exact c j hj⟩⟩
theorem Wa.start {w0 wx : World} {ab aw : Option Addr} {Lb J : List Rw} {g4 : Nat} {e : Rw} (hb : Below w0.heap.size w0 wx) (rb : Rd wx ab Lb) (rj : Rd wx aw J) (be : Bo.Box wx g4 (x5 e)) : Wa w0 (wx.alloc (.cells ze 30)) ab aw Lb J g4 wx.heap.size e 0 :=
  ⟨hb.alloc hb.size _, rb.alloc _, rj.alloc _, be.alloc _, ⟨zR, Bo.Box.new wx ze 30, .inl ⟨rfl, fun j hj => by omega⟩⟩, be.lt, hb.size, fun b off e hn => blk_of rb e hn, fun b off e hn => blk_of rj e hn⟩
theorem Wa.low {w0 wx w' : World} {ab aw : Option Addr} {Lb J : List Rw} {g4 g16 i : Nat} {e : Rw} (h : Wa w0 wx ab aw Lb J g4 g16 e i) (k : Below wx.heap.size wx w') : Wa w0 w' ab aw Lb J g4 g16 e i :=
  ⟨h.hb.trans (k.mono h.hb.size), h.rb.kept k, h.rj.kept k, h.be.kept k, by obtain ⟨z, b, f⟩ := h.bw; exact ⟨z, b.kept k, f⟩, h.n4, h.n0, h.nb, h.nj⟩
theorem Wa.pass {w0 wx : World} {ab aw : Option Addr} {Lb J : List Rw} {g4 g16 i : Nat} {e : Rw} (h : Wa w0 wx ab aw Lb J g4 g16 e i) (hk : kat Lb i ≠ bs e.1) : Wa w0 wx ab aw Lb J g4 g16 e (i + 1) :=
  ⟨h.hb, h.rb, h.rj, h.be, by
    obtain ⟨z, b, f⟩ := h.bw
    refine ⟨z, b, ?_⟩
    rcases f with ⟨f1, f2⟩ | ⟨j, f1, f2⟩
    · refine .inl ⟨f1, fun j hj => ?_⟩
      rcases Nat.lt_succ_iff_lt_or_eq.1 hj with q | q
      · exact f2 j q
      · rw [q]; exact hk
    · exact .inr ⟨j, by omega, f2⟩, h.n4, h.n0, h.nb, h.nj⟩
theorem Wa.put {w0 wx w' : World} {ab aw : Option Addr} {Lb J : List Rw} {g4 g16 i : Nat} {e : Rw} (h : Wa w0 wx ab aw Lb J g4 g16 e i) (hi : i < Lb.length) (hk : kat Lb i = bs e.1) (k : Below wx.heap.size wx w') : Wa w0 (pu5 w' g16 (rat Lb i)) ab aw Lb J g4 g16 e (i + 1) := by
  have h' := h.low k
  have o := pu5_only w' g16 (rat Lb i)
  obtain ⟨z, b, f⟩ := h'.bw
  have n4 := h.n4
  exact ⟨h'.hb.trans (o.below h.n0 h'.hb.size), rd_only h'.rb o h.nb, rd_only h'.rj o h.nj, box_oth h'.be o (by omega), ⟨rat Lb i, pu5_box b, .inr ⟨i, by omega, hi, rfl, hk⟩⟩, h.n4, h.n0, h.nb, h.nj⟩
/-- What is found at the end. -/
theorem fin_of {Lb J : List Rw} {e z : Rw} (h : Wrote (toB Lb) (toE e) (toB J)) (f : Found Lb e Lb.length z) :
    (z = zR ∧ valB (toB J) (bs e.1) = (bs e.2.1, !e.2.2.2.2)) ∨ (bs z.1 ≠ [] ∧ ((newB (toE e) (toE z) = false ∧ J = Lb) ∨ (newB (toE e) (toE z) = true ∧ valB (toB J) (bs e.1) = (bs e.2.1, !e.2.2.2.2)))) := by
  rcases f with ⟨rfl, hn⟩ | ⟨j, _, hj, rfl, hk⟩
  · refine .inl ⟨rfl, h.goes (fun b hb hk => ?_)⟩
    obtain ⟨y, hy, rfl⟩ := List.mem_map.1 hb
    obtain ⟨j, hj, rfl⟩ := List.mem_iff_getElem.1 hy
    have := hn j hj
    unfold kat at this
    rw [rat_at hj] at this
    exact absurd hk this
  · have hm : toE (rat Lb j) ∈ toB Lb := List.mem_map.2 ⟨_, rat_mem hj, rfl⟩
    refine .inr ⟨h.named _ hm, ?_⟩
    cases hn : newB (toE e) (toE (rat Lb j)) with
    | false => exact .inl ⟨rfl, toB_inj (h.stays _ hm hk hn)⟩
    | true =>
      refine .inr ⟨rfl, h.goes (fun b hb hb' => ?_)⟩
      rw [h.one b hb _ hm hb' hk]
      exact hn
theorem joined_mem {A B J : List Rw} (hJ : toB J = (joinB (toB A) (toB B)).1) {x : Rw} (hx : x ∈ J) : x ∈ A ∨ x ∈ B := by
  have hm : toE x ∈ (joinB (toB A) (toB B)).1 := by rw [← hJ]; exact List.mem_map.2 ⟨x, hx, rfl⟩
  cases h : (joinB (toB A) (toB B)).2 with
  | false => rw [Bk.join_no h] at hm; cases hm
  | true =>
    obtain ⟨_, _, _, j⟩ := Bk.join_ok h
    rcases j.mem hm with q | q
    · obtain ⟨y, hy, e⟩ := List.mem_map.1 q
      rw [← toE_inj e]; exact .inl hy
    · obtain ⟨y, hy, e⟩ := List.mem_map.1 q
      rw [← toE_inj e]; exact .inr hy
end Go.Proofs.Ytmhfaeddfibohaa.En
