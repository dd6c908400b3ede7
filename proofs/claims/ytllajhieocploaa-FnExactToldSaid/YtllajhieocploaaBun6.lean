/-
  copiedReplica and copiedReplicas of the program. (Written by wip/mkCopyI.py.)
  l13Tell of the specification: one is told by another. (Written by wip/mkTell.py.)
  Told and Around of the specification.
  Around and Whole of the specification.
  Agreed of the specification. (Written by wip/mkLike.py.)
-/
import Derived.Test.YtllajhieocploaaBun5
import Derived.Test.YtllajhieocploaaMbH
import Derived.Test.YtllajhieocploaaBoxM
import Derived.Test.YtllajhieocploaaMbV
import Derived.Laws.StructEq
import Derived.WideLaws
namespace Go.Proofs.Ytllajhieocploaa.Rp
open Go.ChangeShapes Go.WideShapes Go.ChangeAt Go.RowKit
open Go.Proofs.Ytllajhieocploaa.Vv (Sl sv hidIt)
open Go.Proofs.Ytllajhieocploaa.Rg (upd waits wp_region_inv op_at)
set_option linter.unusedVariables false
/-- What the store leaves: the copy in block o, its rows above N. -/
def FinO (d o p1 p2 q1 q2 N : Nat) (pa qa : Option Addr) (r : Rep) (w0 : World) (W : World) : Prop := ∃ (V : World) (s t : Sl), W = (V.setCell ⟨o, 0, none⟩ (sv s)).setCell ⟨o, 1, none⟩ (sv t) ∧ En.Own V N (sv s) r.1 ∧ Mm.Own V N (sv t) r.2 ∧ Below w0.heap.size w0 V
structure RKo (d o p1 p2 q1 q2 N : Nat) (pa qa : Option Addr) (r : Rep) (w0 : World) (L : Nat → Bool) (u3 u4 u5 u6 u7 u8 u9 u10 : Value) (W : World) : Prop where
  low : L 8 = false → Below w0.heap.size w0 W
  E0 : L 0 = true → L 3 = false → ∃ g, u3 = .slice (some ⟨g, 0, none⟩) 0 0 ∧ En.Own W N (.slice (some ⟨g, 0, none⟩) 0 0) []
  E1 : L 3 = true → L 8 = false → ∃ s : Sl, u6 = sv s ∧ En.Own W N (sv s) r.1
  M1 : L 6 = true → L 8 = false → ∃ s : Sl, u9 = sv s ∧ Mm.Own W N (sv s) r.2
  fin : L 8 = true → FinO d o p1 p2 q1 q2 N pa qa r w0 W
  d3 : L 3 = true → L 0 = true ∧ L 2 = true
  d6 : L 6 = true → L 5 = true ∧ L 3 = true
  d7 : L 7 = true → L 3 = true ∧ L 6 = true
  d8 : L 8 = true → L 7 = true
  k1 : L 1 = true → u4 = .pointer (some ⟨d, 0, none⟩)
  k2 : L 2 = true → u5 = .slice pa p1 p2
  k4 : L 4 = true → u7 = .pointer (some ⟨d, 1, none⟩)
  k5 : L 5 = true → u8 = .slice qa q1 q2
  k7 : L 7 = true → u10 = .agg #[u6, u9]
def KKo (d o p1 p2 q1 q2 N : Nat) (pa qa : Option Addr) (r : Rep) (w0 : World) (y0 y1 y2 : Value) (L : Nat → Bool) (a : Act) (W : World) : Prop := ∃ u3 u4 u5 u6 u7 u8 u9 u10 : Value, a = ⟨(y0 :: y1 :: y2 :: u3 :: u4 :: u5 :: u6 :: u7 :: u8 :: u9 :: u10 :: []).toArray, []⟩ ∧ RKo d o p1 p2 q1 q2 N pa qa r w0 L u3 u4 u5 u6 u7 u8 u9 u10 W
theorem RKo.kept {d o p1 p2 q1 q2 N : Nat} {pa qa : Option Addr} {r : Rep} {w0 : World} {L : Nat → Bool} {u3 u4 u5 u6 u7 u8 u9 u10 : Value} {W W' : World} (R : RKo d o p1 p2 q1 q2 N pa qa r w0 L u3 u4 u5 u6 u7 u8 u9 u10 W) (h8 : L 8 = false) (k : Below W.heap.size W W') : RKo d o p1 p2 q1 q2 N pa qa r w0 L u3 u4 u5 u6 u7 u8 u9 u10 W' :=
  ⟨(fun _ => on (R.low h8) k), (fun a b => by obtain ⟨g, e, o⟩ := R.E0 a b; exact ⟨g, e, o.kept k⟩), (fun a b => by obtain ⟨s, e, o⟩ := R.E1 a b; exact ⟨s, e, o.kept k⟩), (fun a b => by obtain ⟨s, e, o⟩ := R.M1 a b; exact ⟨s, e, o.kept k⟩), (fun q => by rw [h8] at q; cases q), R.d3, R.d6, R.d7, R.d8, R.k1, R.k2, R.k4, R.k5, R.k7⟩
/-- The store comes behind all that turn or read memory. -/
theorem RKo.behind {d o p1 p2 q1 q2 N : Nat} {pa qa : Option Addr} {r : Rep} {w0 : World} {L : Nat → Bool} {u3 u4 u5 u6 u7 u8 u9 u10 : Value} {W : World} (R : RKo d o p1 p2 q1 q2 N pa qa r w0 L u3 u4 u5 u6 u7 u8 u9 u10 W) (h : L 0 = false ∨ L 2 = false ∨ L 3 = false ∨ L 5 = false ∨ L 6 = false ∨ L 7 = false) : L 8 = false := by
  cases q : L 8 with
  | false => rfl
  | true =>
    have h7 := R.d8 q
    have h6 := R.d7 h7
    have h5 := R.d6 h6.2
    have h3 := R.d3 h6.1
    simp [h7, h6.1, h6.2, h5.1, h3.1, h3.2] at h
/-- A row above N stays where the block o below it turns. -/
theorem row_low {w w' : World} {o b e s n : Nat} {v : Value} {xs : List Value} (h : w.ownsRow b e s v n xs) (ho : o < b) (k : Only o w w') : w'.ownsRow b e s v n xs := by
  refine row_in (lo := o) (hi := o + 1) h (OnlyIn.of_only k (.inr ⟨Nat.le_refl _, Nat.lt_succ_self _⟩)) ?_
  intro g hg hq
  rcases h.2 with ⟨e1, _⟩ | ⟨x, cap, cur, e1, hb, _, _⟩
  · rw [e1] at hg; cases hg
  · rw [e1] at hg
    obtain rfl : x = g := Option.some.inj hg
    omega
/-- A Replica with a Book and Members of its own. -/
def CpyP (w : World) (r : Rep) (e : Ending) (w' : World) : Prop := ∃ s t : Sl, e = .returned (.agg #[sv s, sv t]) ∧ En.Own w' w.heap.size (sv s) r.1 ∧ Mm.Own w' w.heap.size (sv t) r.2 ∧ Below w.heap.size w w'
theorem CpyP.of {w w' : World} {r : Rep} {e : Ending} {s t : Sl} (h : e = .returned (.agg #[sv s, sv t])) (h1 : En.Own w' w.heap.size (sv s) r.1) (h2 : Mm.Own w' w.heap.size (sv t) r.2) (h3 : Below w.heap.size w w') : CpyP w r e w' := ⟨s, t, h, h1, h2, h3⟩
theorem CpyP.out {w w' : World} {r : Rep} {e : Ending} (h : CpyP w r e w') : ∃ s t : Sl, e = .returned (.agg #[sv s, sv t]) ∧ En.Own w' w.heap.size (sv s) r.1 ∧ Mm.Own w' w.heap.size (sv t) r.2 ∧ Below w.heap.size w w' := h
set_option maxRecDepth 100000 in
set_option maxHeartbeats 32000000 in
theorem impl_copiedReplica (p q : Sl) (r : Rep) (w : World) (hE : RdE w p r.1) (hM : RdM w q r.2) (hb : r.1.length ≤ 80) (hm : r.2.length ≤ 8) :
    Calls Try.prog 56 #[.agg #[sv p, sv q]] w fun e w' => CpyP w r e w' := by
  obtain ⟨p0, p1, p2⟩ := p
  obtain ⟨q0, q1, q2⟩ := q
  have kA := (((Below.refl w.heap.size w).alloc (Nat.le_refl _) (.cells #[.slice p0 p1 p2, .slice q0 q1 q2] 36)).alloc (o := .cells #[.slice none 0 0, .slice none 0 0] 36) (by simp)).drew
  have bxD := ((Bo.Box.new w #[.slice p0 p1 p2, .slice q0 q1 q2] 36).alloc (.cells #[.slice none 0 0, .slice none 0 0] 36)).drew
  have bxO : Bo.Box ((w.alloc (.cells #[.slice p0 p1 p2, .slice q0 q1 q2] 36)).alloc (.cells #[.slice none 0 0, .slice none 0 0] 36)).drew (w.heap.size + 1) #[.slice none 0 0, .slice none 0 0] := (Bo.Box.newAt (by simp)).drew
  obtain ⟨e1, r1, n1, _, _⟩ := hE.kept kA
  obtain ⟨e2, r2, n2, l2, c2⟩ := hM.kept kA
  simp only at e1 r1 n1 e2 r2 n2 l2 c2
  have hp1 := hidIt e1
  have np := hidIt n1
  have HE := hidIt r1
  have HC := hidIt (fun W (k : Below ((w.alloc (.cells #[.slice p0 p1 p2, .slice q0 q1 q2] 36)).alloc (.cells #[.slice none 0 0, .slice none 0 0] 36)).drew.heap.size ((w.alloc (.cells #[.slice p0 p1 p2, .slice q0 q1 q2] 36)).alloc (.cells #[.slice none 0 0, .slice none 0 0] 36)).drew W) => Mm.impl_copied q0 q2 r.2 W (r2.kept k) n2 (by omega))
  rw [← e2] at HC
  have c0 : ((w.alloc (.cells #[.slice p0 p1 p2, .slice q0 q1 q2] 36)).alloc (.cells #[.slice none 0 0, .slice none 0 0] 36)).drew.cell? ⟨w.heap.size, 0, none⟩ = some (.slice p0 p1 p2) := bxD.c 0 rfl
  have c1 : ((w.alloc (.cells #[.slice p0 p1 p2, .slice q0 q1 q2] 36)).alloc (.cells #[.slice none 0 0, .slice none 0 0] 36)).drew.cell? ⟨w.heap.size, 1, none⟩ = some (.slice q0 q1 q2) := bxD.c 1 rfl
  have hbw : w.heap.size < ((w.alloc (.cells #[.slice p0 p1 p2, .slice q0 q1 q2] 36)).alloc (.cells #[.slice none 0 0, .slice none 0 0] 36)).drew.heap.size := bxD.lt
  have how : w.heap.size + 1 < ((w.alloc (.cells #[.slice p0 p1 p2, .slice q0 q1 q2] 36)).alloc (.cells #[.slice none 0 0, .slice none 0 0] 36)).drew.heap.size := bxO.lt
  have BO := hidIt bxO
  have HB := hidIt kA
  clear kA bxD bxO r1 r2 e1 e2 n1 n2 l2 c2 hE hM
  obtain ⟨W0, hW0⟩ : ∃ W0, W0 = ((w.alloc (.cells #[.slice p0 p1 p2, .slice q0 q1 q2] 36)).alloc (.cells #[.slice none 0 0, .slice none 0 0] 36)).drew := ⟨_, rfl⟩
  rw [← hW0] at c0 c1 HE HC HB hbw how BO
  go_enter Try.func56, Try.ntmps56
  simp only [sv]
  go_wp2_with (fail)
  refine wp_region_inv (by kernel_rfl) (by kernel_rfl) (KKo w.heap.size (w.heap.size + 1) p1 p2 q1 q2 W0.heap.size p0 q0 r W0 _ _ _) ⟨_, _, _, _, _, _, _, _, (by rw [← hW0]; exact ⟨rfl, ⟨(fun _ => (Below.refl _ _)), (fun q => by cases q), (fun q => by cases q), (fun q => by cases q), (fun q => by cases q), (fun q => by cases q), (fun q => by cases q), (fun q => by cases q), (fun q => by cases q), (fun q => by cases q), (fun q => by cases q), (fun q => by cases q), (fun q => by cases q), (fun q => by cases q)⟩⟩)⟩ ?_ ?_
  case refine_1 =>
    intro Lb a' W j hj hI hL hD
    have hcases : j = 0 ∨ j = 1 ∨ j = 2 ∨ j = 3 ∨ j = 4 ∨ j = 5 ∨ j = 6 ∨ j = 7 ∨ j = 8 := by simp at hj; omega
    clear hj
    obtain ⟨u3, u4, u5, u6, u7, u8, u9, u10, rfl, R⟩ := hI
    rcases hcases with rfl | rfl | rfl | rfl | rfl | rfl | rfl | rfl | rfl
    · skip
      have h8 := R.behind (.inl hL)
      have kb := R.low h8
      have R := R.kept h8 ((Below.refl W.heap.size W).alloc (Nat.le_refl _) (.cells #[] 87))
      have n3 : Lb 3 = false := by
        cases q : Lb 3 with
        | false => rfl
        | true => have z := (R.d3 q).1; rw [hL] at z; cases z
      refine op_at rfl (fun K hK => ?_)
      go_simp
      refine hK _ _ ?_
      exact ⟨_, _, _, _, _, _, _, _, rfl, ⟨R.low, (fun _ _ => ⟨W.heap.size, rfl, (En.Own.new W).mono kb.size⟩), R.E1, R.M1, R.fin, (fun q => ⟨rfl, (R.d3 q).2⟩), R.d6, R.d7, R.d8, R.k1, R.k2, R.k4, R.k5, R.k7⟩⟩
    · skip
      refine op_at rfl (fun K hK => ?_)
      go_simp
      refine hK _ _ ?_
      exact ⟨_, _, _, _, _, _, _, _, rfl, ⟨R.low, R.E0, R.E1, R.M1, R.fin, R.d3, R.d6, R.d7, R.d8, (fun _ => rfl), R.k2, R.k4, R.k5, R.k7⟩⟩
    · skip
      have e1 := R.k1 (hD 1 (by kernel_rfl))
      subst e1
      have h8 := R.behind (.inr (.inl hL))
      have kb := R.low h8
      have cc : W.cell? ⟨w.heap.size, 0, none⟩ = some (.slice p0 p1 p2) := by rw [kb.cell hbw]; exact c0
      refine op_at rfl (fun K hK => ?_)
      go_simp
      refine hK _ _ ?_
      exact ⟨_, _, _, _, _, _, _, _, rfl, ⟨R.low, R.E0, R.E1, R.M1, R.fin, (fun q => ⟨(R.d3 q).1, rfl⟩), R.d6, R.d7, R.d8, R.k1, (fun _ => rfl), R.k4, R.k5, R.k7⟩⟩
    · skip
      have h8 := R.behind (.inr (.inr (.inl hL)))
      have kb := R.low h8
      obtain ⟨g, eg, og⟩ := R.E0 (hD 0 (by kernel_rfl)) hL
      have es := R.k2 (hD 2 (by kernel_rfl))
      subst eg es
      have n6 : Lb 6 = false := by
        cases q : Lb 6 with
        | false => rfl
        | true => have z := (R.d6 q).2; rw [hL] at z; cases z
      have n7 : Lb 7 = false := by
        cases q : Lb 7 with
        | false => rfl
        | true => have z := (R.d7 q).1; rw [hL] at z; cases z
      refine op_at rfl (fun K hK => ?_)
      have hpc : p0 = none ∨ ∃ x, p0 = some x := by cases p0 with | none => exact .inl rfl | some x => exact .inr ⟨x, rfl⟩
      rcases hpc with hpa | ⟨x, hpa⟩
      · have hnil : r.1 = [] := by have z := (HE.out.kept kb); rw [hpa] at z; exact z.none_nil
        have hz : p1 = 0 := by rw [hp1.out, hnil]; rfl
        have hz2 : p2 = 0 := np.out hpa
        refine En.step_append_none rfl (.tmp 3) (.tmp 5) rfl W0.heap.size (.slice (some ⟨g, 0, none⟩) 0 0) [] (by simp [Act.eval]) og (by simp [Act.eval, hz, hz2, hpa]) ?_
        refine hK _ _ ?_
        exact ⟨_, _, _, _, _, _, _, _, rfl, ⟨R.low, (fun _ q => by cases q), (fun _ _ => ⟨(some ⟨g, 0, none⟩, 0, 0), rfl, by rw [hnil]; exact og⟩), (fun q => by have q2 : Lb 6 = true := q; exact absurd (n6.symm.trans q2) (by decide)), (fun q => by have q2 : Lb 8 = true := q; rw [h8] at q2; cases q2), (fun _ => ⟨hD 0 (by kernel_rfl), hD 2 (by kernel_rfl)⟩), (fun q => ⟨(R.d6 q).1, rfl⟩), (fun q => ⟨rfl, (R.d7 q).2⟩), R.d8, R.k1, R.k2, R.k4, R.k5, (fun q => by have q2 : Lb 7 = true := q; exact absurd (n7.symm.trans q2) (by decide))⟩⟩
      · refine En.step_append rfl (.tmp 3) (.tmp 5) rfl W0.heap.size (.slice (some ⟨g, 0, none⟩) 0 0) [] r.1 (by simp [Act.eval]) og x p1 p2 hp1.out.symm (by simp [Act.eval, hpa]) (rd_cellsE (by have z := (HE.out.kept kb); rw [hpa] at z; exact z)) (by have := hp1.out; simp; omega) kb.size ?_
        intro v' W' o' gr _
        rw [List.nil_append] at o'
        obtain ⟨s, es'⟩ := slE o'
        subst es'
        have kb2 : Below W0.heap.size W0 W' := kb.trans (En.grown_below og gr (Nat.le_refl _) kb.size)
        refine hK _ _ ?_
        exact ⟨_, _, _, _, _, _, _, _, rfl, ⟨(fun _ => kb2), (fun _ q => by cases q), (fun _ _ => ⟨s, rfl, o'⟩), (fun q => by have q2 : Lb 6 = true := q; exact absurd (n6.symm.trans q2) (by decide)), (fun q => by have q2 : Lb 8 = true := q; rw [h8] at q2; cases q2), (fun _ => ⟨hD 0 (by kernel_rfl), hD 2 (by kernel_rfl)⟩), (fun q => ⟨(R.d6 q).1, rfl⟩), (fun q => ⟨rfl, (R.d7 q).2⟩), R.d8, R.k1, R.k2, R.k4, R.k5, (fun q => by have q2 : Lb 7 = true := q; exact absurd (n7.symm.trans q2) (by decide))⟩⟩
    · skip
      refine op_at rfl (fun K hK => ?_)
      go_simp
      refine hK _ _ ?_
      exact ⟨_, _, _, _, _, _, _, _, rfl, ⟨R.low, R.E0, R.E1, R.M1, R.fin, R.d3, R.d6, R.d7, R.d8, R.k1, R.k2, (fun _ => rfl), R.k5, R.k7⟩⟩
    · skip
      have e4 := R.k4 (hD 4 (by kernel_rfl))
      subst e4
      have h8 := R.behind (.inr (.inr (.inr (.inl hL))))
      have kb := R.low h8
      have cc : W.cell? ⟨w.heap.size, 1, none⟩ = some (.slice q0 q1 q2) := by rw [kb.cell hbw]; exact c1
      refine op_at rfl (fun K hK => ?_)
      go_simp
      refine hK _ _ ?_
      exact ⟨_, _, _, _, _, _, _, _, rfl, ⟨R.low, R.E0, R.E1, R.M1, R.fin, R.d3, (fun q => ⟨rfl, (R.d6 q).2⟩), R.d7, R.d8, R.k1, R.k2, R.k4, (fun _ => rfl), R.k7⟩⟩
    · skip
      have h8 := R.behind (.inr (.inr (.inr (.inr (.inl hL)))))
      have kb := R.low h8
      have es := R.k5 (hD 5 (by kernel_rfl))
      subst es
      have n7 : Lb 7 = false := by
        cases q : Lb 7 with
        | false => rfl
        | true => have z := (R.d7 q).2; rw [hL] at z; cases z
      refine op_at rfl (fun K hK => ?_)
      go_simp
      refine (HC.out W kb).mono ?_
      intro e W1 hz
      obtain ⟨g, c, rfl, _, _, o7, k7⟩ := hz.out
      have R := R.kept h8 k7
      go_simp
      refine hK _ _ ?_
      exact ⟨_, _, _, _, _, _, _, _, rfl, ⟨R.low, R.E0, R.E1, (fun _ _ => ⟨(some ⟨g, 0, none⟩, q1, c), rfl, o7.mono kb.size⟩), R.fin, R.d3, (fun _ => ⟨hD 5 (by kernel_rfl), hD 3 (by kernel_rfl)⟩), (fun q => ⟨(R.d7 q).1, rfl⟩), R.d8, R.k1, R.k2, R.k4, R.k5, (fun q => by have q2 : Lb 7 = true := q; exact absurd (n7.symm.trans q2) (by decide))⟩⟩
    · skip
      have h8 := R.behind (.inr (.inr (.inr (.inr (.inr hL)))))
      have kb := R.low h8
      obtain ⟨s, es, _⟩ := R.E1 (hD 3 (by kernel_rfl)) h8
      obtain ⟨t, et, _⟩ := R.M1 (hD 6 (by kernel_rfl)) h8
      obtain ⟨s0, s1, s2⟩ := s
      obtain ⟨t0, t1, t2⟩ := t
      simp only [sv] at es et
      subst es et
      refine op_at rfl (fun K hK => ?_)
      go_simp
      refine hK _ _ ?_
      exact ⟨_, _, _, _, _, _, _, _, rfl, ⟨R.low, R.E0, R.E1, R.M1, R.fin, R.d3, R.d6, (fun _ => ⟨hD 3 (by kernel_rfl), hD 6 (by kernel_rfl)⟩), (fun _ => rfl), R.k1, R.k2, R.k4, R.k5, (fun _ => rfl)⟩⟩
    · skip
      have kb := R.low hL
      have h7 := hD 7 (by kernel_rfl)
      have e7 := R.k7 h7
      have d7 := R.d7 h7
      obtain ⟨s, es, oE⟩ := R.E1 d7.1 hL
      obtain ⟨t, et, oM⟩ := R.M1 d7.2 hL
      obtain ⟨s0, s1, s2⟩ := s
      obtain ⟨t0, t1, t2⟩ := t
      simp only [sv] at es et
      subst es et e7
      have bo := BO.out.kept kb
      have g0 := bo.c 0 (v := .slice none 0 0) rfl
      have g1 := bo.c 1 (v := .slice none 0 0) rfl
      have f0 := bo.fr 0
      have f1 := bo.fr 1
      refine op_at rfl (fun K hK => ?_)
      go_simp
      refine hK _ _ ?_
      exact ⟨_, _, _, _, _, _, _, _, rfl, ⟨(fun q => by cases q), (fun _ q => by have q2 : Lb 3 = false := q; rw [d7.1] at q2; cases q2), (fun _ q => by cases q), (fun _ q => by cases q), (fun _ => ⟨W, (s0, s1, s2), (t0, t1, t2), rfl, oE, oM, kb⟩), R.d3, R.d6, R.d7, (fun _ => hD 7 (by kernel_rfl)), R.k1, R.k2, R.k4, R.k5, R.k7⟩⟩
  case refine_2 =>
    intro Lb a' W hI hall
    obtain ⟨u3, u4, u5, u6, u7, u8, u9, u10, rfl, R⟩ := hI
    obtain ⟨V, s, t, eW, oE, oM, kV⟩ := R.fin (hall 8)
    clear R hall
    have hlt : w.heap.size + 1 < W0.heap.size := how
    have O1 : Only (w.heap.size + 1) V W := by rw [eW]; exact ((Only.refl _ V).setCell 0 _).setCell 1 _
    have zE : En.Own W W0.heap.size (sv s) r.1 := row_low oE hlt O1
    have oE' : En.Own W w.heap.size (sv s) r.1 := zE.mono (Nat.le_of_lt hbw)
    have zM : Mm.Own W W0.heap.size (sv t) r.2 := row_low oM hlt O1
    have oM' : Mm.Own W w.heap.size (sv t) r.2 := zM.mono (Nat.le_of_lt hbw)
    have bz := ((BO.out.kept kV).put (c' := #[sv s, .slice none 0 0]) 0 (sv s) (by simp) rfl).put (c' := #[sv s, sv t]) 1 (sv t) (by simp) rfl
    rw [← eW] at bz
    have HBW : Below w.heap.size w W := by
      rw [eW]
      exact ((HB.out.trans (kV.mono HB.out.size)).setCell (p := ⟨w.heap.size + 1, 0, none⟩) (Nat.le_succ _) (sv s)).setCell (p := ⟨w.heap.size + 1, 1, none⟩) (Nat.le_succ _) (sv t)
    have x0 := bz.c 0 (v := sv s) rfl
    have x1 := bz.c 1 (v := sv t) rfl
    obtain ⟨s0, s1, s2⟩ := s
    obtain ⟨t0, t1, t2⟩ := t
    simp only [sv] at x0 x1
    have HE' := hidIt oE'
    have HM' := hidIt oM'
    have HBZ := hidIt HBW
    clear eW oE oM O1 bz zE zM oE' oM' HBW
    go_wp2_with (fail)
    refine bodyPost_ret (v := .agg #[.slice s0 s1 s2, .slice t0 t1 t2]) (by simp [results, Try.results56, go_sem, x0, x1]) rfl ?_
    exact CpyP.of (s := (s0, s1, s2)) (t := (t0, t1, t2)) rfl HE'.out HM'.out HBZ.out
set_option maxRecDepth 100000 in
set_option maxHeartbeats 32000000 in
theorem impl_copiedReplicas (a : Option Addr) (cap : Nat) (L : List Rep) (w : World) (h : Rd w a L) (hT : Tame L) :
    Calls Try.prog 26 #[.slice a L.length cap] w fun e w' => LstP w L e w' := by
  obtain ⟨i0, hi0, hz0, hz1, hz2⟩ := info_parts Vv.infoRw
  have HTT := hidIt hT
  have hm6 := hT.n
  have HR := hidIt h
  clear h hT
  generalize hn : L.length = m at *
  have HN := hidIt hn
  clear hn
  go_enter Try.func26, Try.ntmps26
  go_wp2_with (fail)
  go_loopw [3, 9] (fun z y wx => ∃ (i go mm co : Nat) (M : List Rep), y = .int .i64 i ∧ z = .slice (some ⟨go, 0, none⟩) mm co ∧ i ≤ m ∧ Hid (M.length = mm) ∧ Hid (mm = i) ∧ Hid (M = L.take i) ∧ Hid (Own wx w.heap.size wx.heap.size (.slice (some ⟨go, 0, none⟩) mm co) M) ∧ Hid (Below w.heap.size w wx)) (fun _ y _ => (m - intOf y).toNat)
  case atStart => exact ⟨0, w.heap.size, 0, 0, [], rfl, rfl, by omega, hidIt rfl, hidIt rfl, hidIt (by simp), hidIt (Own.new w).grow, hidIt ((Below.refl _ w).alloc (Nat.le_refl _) _)⟩
  case round =>
    obtain ⟨i, go, mm, co, M, rfl, rfl, hi, HMM, HMI, HME, HO, HBx⟩ := hrel
    by_cases hin : i < m
    · have hin' : (i : Int) < (m : Int) := by omega
      have hi0' : (0 : Int) ≤ (i : Int) := by omega
      have hiL : i < L.length := by rw [HN.out]; exact hin
      obtain ⟨b, off, p, q, ea, a0, a1, rE, rM⟩ := (HR.out.kept HBx.out).one (i := i) hiL
      subst ea
      have hb80 := HTT.out.bl i hiL
      have hm8 := HTT.out.ml i hiL
      have HTK := hidIt (take_rat hiL)
      obtain ⟨p0, p1, p2⟩ := p
      obtain ⟨q0, q1, q2⟩ := q
      have hbb : b < wr.heap.size := World.block_lt_of_cell? _ _ a0
      have kA := (Below.refl wr.heap.size wr).alloc (Nat.le_refl _) (.cells #[.slice p0 p1 p2, .slice q0 q1 q2] 36)
      have HC := hidIt (impl_copiedReplica (p0, p1, p2) (q0, q1, q2) (rat L i) _ (rE.kept kA) (rM.kept kA) hb80 hm8)
      have HOk := hidIt (HO.out.kept kA).grow
      replace HBx := hidIt (on HBx.out kA)
      simp only [sv] at a0 a1 HC
      clear kA rE rM HO
      go_wp2_with (fail)
      generalize (wr.alloc (.cells #[.slice p0 p1 p2, .slice q0 q1 q2] 36)) = W0 at HC HOk HBx ⊢
      refine HC.out.mono ?_
      intro e W1 hz
      obtain ⟨⟨s0, s1, s2⟩, ⟨t0, t1, t2⟩, rfl, oE, oM, k1⟩ := hz.out
      simp only [sv]
      have k2 := (Below.refl W1.heap.size W1).alloc (Nat.le_refl _) (.cells #[.slice s0 s1 s2, .slice t0 t1 t2] 36)
      have kb : Below W0.heap.size W0 (W1.alloc (.cells #[.slice s0 s1 s2, .slice t0 t1 t2] 36)) := k1.trans (k2.mono k1.size)
      obtain ⟨C, hC⟩ := (HOk.out.kept kb)
      have HRow : Hid (World.ownsRow (W1.alloc (.cells #[.slice s0 s1 s2, .slice t0 t1 t2] 36)) w.heap.size 36 2 (.slice (some ⟨go, 0, none⟩) mm co) C.length (Vv.rcells C)) := hidIt hC.row
      have HCC := hidIt hC
      have HE := hidIt (oE.kept k2)
      have HM := hidIt (oM.kept k2)
      have HFr := hidIt (rd_two W1 s0 t0 s1 s2 t1 t2).cells
      have HKb := hidIt kb
      have HCL : Hid (C.length = i) := hidIt (by have := hC.len; have := HMM.out; have := HMI.out; omega)
      clear oE oM k1 k2 kb hC hz HC
      go_wp2_with (first | (at_builtin; refine wpList_append_own _ rfl _ _ 24 rfl w.heap.size 36 i0 (.agg #[sv (none, 0, 0), sv (none, 0, 0)]) 2 48 Try.underlying24 hi0 hz0 hz1 hz2 rfl (by decide) _ _ _ rfl HRow.out ⟨W1.heap.size, 0, none⟩ 1 1 [.slice s0 s1 s2, .slice t0 t1 t2] rfl rfl HFr.out (Vv.rcells_one [((s0, s1, s2), (t0, t1, t2))]) ?ca1 ?ca2 ?ca3 ?_) | fail)
      case ca1 => unfold maxLen; have := HCL.out; omega
      case ca2 => have := HCL.out; omega
      case ca3 => exact Nat.le_trans HBx.out.size HKb.out.size
      intro v' w9 hown hgrow hnil
      have hM := HCC.out.more (s := (s0, s1, s2)) (t := (t0, t1, t2)) (Vv.Own.more (L := C) (M := [((s0, s1, s2), (t0, t1, t2))]) hown) hgrow HE.out HM.out (Nat.le_refl _)
      have kl : Below w.heap.size W0 w9 := (HKb.out.mono HBx.out.size).trans (Vv.grown_below HCC.out.row hgrow (Nat.le_refl _) (Nat.le_trans HBx.out.size HKb.out.size))
      have hlen : (M ++ [rat L i]).length = mm + 1 := by rw [List.length_append, HMM.out]; rfl
      have hOw : Own w9 w.heap.size w9.heap.size v' (M ++ [rat L i]) := ⟨_, hM⟩
      obtain ⟨za, zc, ez, _, _, hzn⟩ := hOw.formN hlen
      subst ez
      obtain ⟨zg, zo, ez⟩ := hOw.rd.addr (by rw [hlen]; omega)
      subst ez
      have hz0' : zo = 0 := by
        obtain ⟨a', c', e', _, _, _, _, hs⟩ := hM.row.form
        obtain ⟨g', eg, _⟩ := hs _ (Value.slice.inj e').1.symm
        cases eg
        rfl
      subst hz0'
      have HOw := hidIt hOw
      have HLo := hidIt (HBx.out.trans kl)
      clear hOw hM kl hown hgrow hnil
      go_wp2_with (fail)
      exact ⟨⟨i + 1, zg, mm + 1, zc, M ++ [rat L i], by simp, rfl, by omega, hidIt hlen, hidIt (by have := HMI.out; omega), hidIt (by rw [HTK.out, HME.out]), HOw, HLo⟩, by simp [intOf]; omega⟩
    · have hin' : ¬ (i : Int) < (m : Int) := by omega
      have hmi := HMI.out
      subst hmi
      obtain rfl : mm = m := by omega
      have eM : M = L := by rw [HME.out, ← HN.out, List.take_length]
      subst eM
      go_wp2_with (fail)
      go_ret
      exact LstP.of rfl HO.out HBx.out
end Go.Proofs.Ytllajhieocploaa.Rp
namespace Go.Proofs.Ytllajhieocploaa.Rp
open Go.ChangeShapes Go.WideShapes Go.ChangeAt Go.RowKit
open Go.Proofs.Ytllajhieocploaa.Vv (Sl sv hidIt)
open Go.Proofs.Ytllajhieocploaa.Rg (upd waits wp_region_inv op_at)
set_option linter.unusedVariables false
/-- Two Replicas in a literal. -/
theorem rd_four {W : World} {s0 t0 p0 q0 : Option Addr} {s1 s2 t1 t2 p1 p2 q1 q2 : Nat} {r r' : Rep} (h1 : RdE W (s0, s1, s2) r.1) (h2 : RdM W (t0, t1, t2) r.2) (h3 : RdE W (p0, p1, p2) r'.1) (h4 : RdM W (q0, q1, q2) r'.2) :
    Rd (W.alloc (.cells #[.slice s0 s1 s2, .slice t0 t1 t2, .slice p0 p1 p2, .slice q0 q1 q2] 36)) (some ⟨W.heap.size, 0, none⟩) [r, r'] := by
  have k := (Below.refl W.heap.size W).alloc (Nat.le_refl _) (.cells #[.slice s0 s1 s2, .slice t0 t1 t2, .slice p0 p1 p2, .slice q0 q1 q2] 36)
  refine ⟨[((s0, s1, s2), (t0, t1, t2)), ((p0, p1, p2), (q0, q1, q2))], rfl, ⟨fun i hi => ⟨W.heap.size, 0, rfl, fun j hj => ?_⟩⟩, fun i hi => ?_, fun i hi => ?_⟩
  · have hi' : i = 0 ∨ i = 1 := by simp at hi; omega
    rcases hi' with rfl | rfl
    · match j, hj with
      | 0, _ => simp [Vv.rcell, Vv.rat]
      | 1, _ => simp [Vv.rcell, Vv.rat]
    · match j, hj with
      | 0, _ => simp [Vv.rcell, Vv.rat]
      | 1, _ => simp [Vv.rcell, Vv.rat]
  · have hi' : i = 0 ∨ i = 1 := by simp at hi; omega
    rcases hi' with rfl | rfl
    · exact h1.kept k
    · exact h3.kept k
  · have hi' : i = 0 ∨ i = 1 := by simp at hi; omega
    rcases hi' with rfl | rfl
    · exact h2.kept k
    · exact h4.kept k
theorem tame_two {L : List Rep} (h : Tame L) {t f : Nat} (ht : t < L.length) (hf : f < L.length) : Tame [rat L t, rat L f] := by
  have go : ∀ {Q : Rep → Prop}, (∀ i, i < L.length → Q (rat L i)) → ∀ i, i < [rat L t, rat L f].length → Q (rat [rat L t, rat L f] i) := fun hq i hi => by
    have hi' : i = 0 ∨ i = 1 := by simp at hi; omega
    rcases hi' with rfl | rfl
    · exact hq t ht
    · exact hq f hf
  exact ⟨by simp, go (Q := fun r => r.1.length ≤ 80) h.bl, go (Q := fun r => r.2.length ≤ 8) h.ml, go (Q := fun r => Bk.Ris (En.toB r.1)) h.br, go (Q := fun r => Mk.Ris (Mm.toB r.2)) h.mr⟩
/-- What one is told by another. -/
structure TellR (L M : List Rep) (f t : Nat) : Prop where
  len : M.length = L.length
  bk : bks M = Bk.tell (bks L) f t
  mb : mbs M = Mk.tell (mbs L) f t
theorem bks_length (L : List Rep) : (bks L).length = L.length := List.length_map ..
theorem mbs_length (L : List Rep) : (mbs L).length = L.length := List.length_map ..
theorem bks_at {L : List Rep} {i : Nat} (h : i < L.length) : Bk.at0 (bks L) i = En.toB (rat L i).1 := by
  rw [Bk.at0_get (by rw [bks_length]; exact h), rat_at h]
  exact List.getElem_map ..
theorem mbs_at {L : List Rep} {i : Nat} (h : i < L.length) : Mk.at0 (mbs L) i = Mm.toB (rat L i).2 := by
  rw [Mk.at0_get (by rw [mbs_length]; exact h), rat_at h]
  exact List.getElem_map ..
theorem tell_set {L : List Rep} {f t : Nat} {J : Rep} (hf : f < L.length) (ht : t < L.length) (h1 : En.toB J.1 = Bk.whole (bks [rat L t, rat L f])) (h2 : Mm.toB J.2 = Mk.whole (mbs [rat L t, rat L f])) : TellR L (L.set t J) f t := by
  refine ⟨List.length_set .., ?_, ?_⟩
  · unfold Bk.tell
    rw [bks_at ht, bks_at hf]
    unfold bks
    rw [List.map_set, h1]
    congr 1
    show Bk.mergeE (Bk.mergeE [] _) _ = _
    rw [Bk.mergeE_nil]
  · unfold Mk.tell
    rw [mbs_at ht, mbs_at hf]
    unfold mbs
    rw [List.map_set, h2]
    congr 1
    show Mk.mergeE (Mk.mergeE [] _) _ = _
    rw [Mk.mergeE_nil]
/-- What l13Tell leaves. -/
def TelP (lo g m cap f t : Nat) (L : List Rep) (w : World) (e : Ending) (w' : World) : Prop := e = .returned (.tuple #[]) ∧ ∃ M, TellR L M f t ∧ Own w' lo w'.heap.size (.slice (some ⟨g, 0, none⟩) m cap) M ∧ Below lo w w'
theorem TelP.of {lo g m cap f t : Nat} {L : List Rep} {w w' : World} {e : Ending} {M : List Rep} (h : e = .returned (.tuple #[])) (h1 : TellR L M f t) (h2 : Own w' lo w'.heap.size (.slice (some ⟨g, 0, none⟩) m cap) M) (h3 : Below lo w w') : TelP lo g m cap f t L w e w' := ⟨h, M, h1, h2, h3⟩
theorem TelP.out {lo g m cap f t : Nat} {L : List Rep} {w w' : World} {e : Ending} (h : TelP lo g m cap f t L w e w') : e = .returned (.tuple #[]) ∧ ∃ M, TellR L M f t ∧ Own w' lo w'.heap.size (.slice (some ⟨g, 0, none⟩) m cap) M ∧ Below lo w w' := h
def CPTl (g m cap f t s1 s2 t1 t2 p1 p2 q1 q2 : Nat) (s0 t0 p0 q0 : Option Addr) (K : List Rep) (w0 : World) (W : World) (v : Value) : Prop := ∃ (s u : Sl) (J : Rep), v = .agg #[sv s, sv u] ∧ En.Own W (w0.alloc (.cells #[.slice s0 s1 s2, .slice t0 t1 t2, .slice p0 p1 p2, .slice q0 q1 q2] 36)).heap.size (sv s) J.1 ∧ Mm.Own W (w0.alloc (.cells #[.slice s0 s1 s2, .slice t0 t1 t2, .slice p0 p1 p2, .slice q0 q1 q2] 36)).heap.size (sv u) J.2 ∧ En.toB J.1 = Bk.whole (bks K) ∧ Mm.toB J.2 = Mk.whole (mbs K) ∧ Below (w0.alloc (.cells #[.slice s0 s1 s2, .slice t0 t1 t2, .slice p0 p1 p2, .slice q0 q1 q2] 36)).heap.size (w0.alloc (.cells #[.slice s0 s1 s2, .slice t0 t1 t2, .slice p0 p1 p2, .slice q0 q1 q2] 36)) W
def SPTl (g m cap f t s1 s2 t1 t2 p1 p2 q1 q2 : Nat) (s0 t0 p0 q0 : Option Addr) (K : List Rep) (w0 : World) (W' : World) : Prop := ∃ (W : World) (s u : Sl) (J : Rep), W' = (W.setCell ⟨g, t * 2, none⟩ (sv s)).setCell ⟨g, t * 2 + 1, none⟩ (sv u) ∧ En.Own W (w0.alloc (.cells #[.slice s0 s1 s2, .slice t0 t1 t2, .slice p0 p1 p2, .slice q0 q1 q2] 36)).heap.size (sv s) J.1 ∧ Mm.Own W (w0.alloc (.cells #[.slice s0 s1 s2, .slice t0 t1 t2, .slice p0 p1 p2, .slice q0 q1 q2] 36)).heap.size (sv u) J.2 ∧ En.toB J.1 = Bk.whole (bks K) ∧ Mm.toB J.2 = Mk.whole (mbs K) ∧ Below w0.heap.size w0 W
structure RK_Tl (g m cap f t s1 s2 t1 t2 p1 p2 q1 q2 : Nat) (s0 t0 p0 q0 : Option Addr) (K : List Rep) (w0 : World) (W0 : World) (L : Nat → Bool) (u6 u7 u8 u9 u10 u11 u12 u13 u14 u15 u16 u17 u18 : Value) (W : World) : Prop where
  st0 : L 10 = false → W = W0
  sta : L 10 = true → L 11 = false → W = W0.alloc (.cells #[.slice s0 s1 s2, .slice t0 t1 t2, .slice p0 p1 p2, .slice q0 q1 q2] 36)
  st1 : L 11 = true → L 13 = false → CPTl g m cap f t s1 s2 t1 t2 p1 p2 q1 q2 s0 t0 p0 q0 K w0 W u17
  st2 : L 13 = true → SPTl g m cap f t s1 s2 t1 t2 p1 p2 q1 q2 s0 t0 p0 q0 K w0 W
  dep : L 10 = true → L 5 = true ∧ L 9 = true
  dpa : L 11 = true → L 10 = true
  dps : L 13 = true → L 11 = true
  k0 : L 0 = true → u6 = .slice (some ⟨g, 0, none⟩) m cap
  k1 : L 1 = true → u7 = .int .i64 t
  k2 : L 2 = true → u8 = .slice (some ⟨g, 0, none⟩) m cap
  k3 : L 3 = true → u9 = .int .i64 t
  k4 : L 4 = true → u10 = .pointer (some ⟨g, t * 2, none⟩)
  k5 : L 5 = true → u11 = .agg #[.slice s0 s1 s2, .slice t0 t1 t2]
  k6 : L 6 = true → u12 = .slice (some ⟨g, 0, none⟩) m cap
  k7 : L 7 = true → u13 = .int .i64 f
  k8 : L 8 = true → u14 = .pointer (some ⟨g, f * 2, none⟩)
  k9 : L 9 = true → u15 = .agg #[.slice p0 p1 p2, .slice q0 q1 q2]
  k10 : L 10 = true → u16 = .slice (some ⟨W0.heap.size, 0, none⟩) 2 2
  k12 : L 12 = true → u18 = .pointer (some ⟨g, t * 2, none⟩)
def KK_Tl (g m cap f t s1 s2 t1 t2 p1 p2 q1 q2 : Nat) (s0 t0 p0 q0 : Option Addr) (K : List Rep) (w0 : World) (W0 : World) (y0 y1 y2 y3 y4 y5 : Value) (L : Nat → Bool) (a : Act) (W : World) : Prop := ∃ u6 u7 u8 u9 u10 u11 u12 u13 u14 u15 u16 u17 u18 : Value, a = ⟨(y0 :: y1 :: y2 :: y3 :: y4 :: y5 :: u6 :: u7 :: u8 :: u9 :: u10 :: u11 :: u12 :: u13 :: u14 :: u15 :: u16 :: u17 :: u18 :: []).toArray, []⟩ ∧ RK_Tl g m cap f t s1 s2 t1 t2 p1 p2 q1 q2 s0 t0 p0 q0 K w0 W0 L u6 u7 u8 u9 u10 u11 u12 u13 u14 u15 u16 u17 u18 W
set_option maxRecDepth 100000 in
set_option maxHeartbeats 400000 in
theorem spec_l13Tell (lo g m cap f t : Nat) (L : List Rep) (w : World) (h : Own w lo w.heap.size (.slice (some ⟨g, 0, none⟩) m cap) L) (hT : Tame L) (hm : L.length = m) (hf : f < m) (ht : t < m) :
    Calls Try.prog 23 #[.slice (some ⟨g, 0, none⟩) m cap, .int .i64 f, .int .i64 t] w fun e w' => TelP lo g m cap f t L w e w' := by
  have htL : t < L.length := by omega
  have hfL : f < L.length := by omega
  obtain ⟨⟨s0, s1, s2⟩, ⟨t0, t1, t2⟩, c0, c1, f0, f1, oE, oM⟩ := h.cells htL
  obtain ⟨⟨p0, p1, p2⟩, ⟨q0, q1, q2⟩, d0, d1, _, _, oE', oM'⟩ := h.cells hfL
  have HTS := hidIt (fun J => tell_set (J := J) hfL htL)
  obtain ⟨W0, hW0⟩ : ∃ W0, W0 = w.drew := ⟨_, rfl⟩
  have kd : Below w.heap.size w w.drew := (Below.refl _ w).drew
  have HC0 := hidIt (spec_l13Whole (some ⟨w.drew.heap.size, 0, none⟩) 2 [rat L t, rat L f] _ (rd_four ((rdE_of oE).kept kd) ((rdM_of oM).kept kd) ((rdE_of oE').kept kd) ((rdM_of oM').kept kd)) (tame_two hT htL hfL))
  simp only [List.length_cons, List.length_nil, Nat.zero_add, Nat.reduceAdd] at HC0
  have hgw : g < w.drew.heap.size := World.block_lt_of_cell? _ _ c0
  have hgl : lo ≤ g := by
    obtain ⟨C, hC⟩ := h
    exact (World.ownsRow.lt hC.row g rfl).1
  have HO := hidIt h
  have c0' : w.drew.cell? ⟨g, t * 2, none⟩ = some (.slice s0 s1 s2) := c0
  have c1' : w.drew.cell? ⟨g, t * 2 + 1, none⟩ = some (.slice t0 t1 t2) := c1
  have d0' : w.drew.cell? ⟨g, f * 2, none⟩ = some (.slice p0 p1 p2) := d0
  have d1' : w.drew.cell? ⟨g, f * 2 + 1, none⟩ = some (.slice q0 q1 q2) := d1
  have f0' : w.drew.frozen? ⟨g, t * 2, none⟩ = false := f0
  have f1' : w.drew.frozen? ⟨g, t * 2 + 1, none⟩ = false := f1
  clear c0 c1 d0 d1 f0 f1 oE oM oE' oM' h kd
  have HBW : Hid (∀ W, Below W0.heap.size W0 W → Below w.heap.size w W) := hidIt (fun W k => by rw [hW0] at k; exact ⟨k.os, k.tape, k.output, k.size, k.block⟩)
  rw [← hW0] at c0' c1' d0' d1' f0' f1' HC0 hgw
  have c0 := c0'
  have c1 := c1'
  have d0 := d0'
  have d1 := d1'
  have f0 := f0'
  have f1 := f1'
  have HC := HC0
  clear c0' c1' d0' d1' f0' f1' HC0
  have hti : (t : Int) < (m : Int) := by omega
  have hfi : (f : Int) < (m : Int) := by omega
  have ht0 : (0 : Int) ≤ (t : Int) := by omega
  have hf0 : (0 : Int) ≤ (f : Int) := by omega
  have HSZ : Hid (W0.heap.size = w.heap.size) := hidIt (by rw [hW0]; rfl)
  go_enter Try.func23, Try.ntmps23
  go_wp2_with (fail)
  refine wp_region_inv (by kernel_rfl) (by kernel_rfl) (KK_Tl g m cap f t s1 s2 t1 t2 p1 p2 q1 q2 s0 t0 p0 q0 [rat L t, rat L f] W0 (W0) _ _ _ _ _ _) ⟨_, _, _, _, _, _, _, _, _, _, _, _, _, rfl, ⟨fun _ => hW0.symm, (fun q => by cases q), (fun q => by cases q), (fun q => by cases q), (fun q => by cases q), (fun q => by cases q), (fun q => by cases q), (fun q => by cases q), (fun q => by cases q), (fun q => by cases q), (fun q => by cases q), (fun q => by cases q), (fun q => by cases q), (fun q => by cases q), (fun q => by cases q), (fun q => by cases q), (fun q => by cases q), (fun q => by cases q), (fun q => by cases q)⟩⟩ ?_ ?_
  case refine_1 =>
    clear hW0
    intro Lb a' W i hi hI hL hD
    have hcases : i = 0 ∨ i = 1 ∨ i = 2 ∨ i = 3 ∨ i = 4 ∨ i = 5 ∨ i = 6 ∨ i = 7 ∨ i = 8 ∨ i = 9 ∨ i = 10 ∨ i = 11 ∨ i = 12 ∨ i = 13 := by simp at hi; omega
    clear hi
    obtain ⟨u6, u7, u8, u9, u10, u11, u12, u13, u14, u15, u16, u17, u18, rfl, R⟩ := hI
    rcases hcases with rfl | rfl | rfl | rfl | rfl | rfl | rfl | rfl | rfl | rfl | rfl | rfl | rfl | rfl
    · skip
      refine op_at rfl (fun K hK => ?_)
      go_simp
      refine hK _ _ ?_
      exact ⟨_, _, _, _, _, _, _, _, _, _, _, _, _, rfl, R.st0, R.sta, R.st1, R.st2, R.dep, R.dpa, R.dps, (fun _ => rfl), R.k1, R.k2, R.k3, R.k4, R.k5, R.k6, R.k7, R.k8, R.k9, R.k10, R.k12⟩
    · skip
      refine op_at rfl (fun K hK => ?_)
      go_simp
      refine hK _ _ ?_
      exact ⟨_, _, _, _, _, _, _, _, _, _, _, _, _, rfl, R.st0, R.sta, R.st1, R.st2, R.dep, R.dpa, R.dps, R.k0, (fun _ => rfl), R.k2, R.k3, R.k4, R.k5, R.k6, R.k7, R.k8, R.k9, R.k10, R.k12⟩
    · skip
      refine op_at rfl (fun K hK => ?_)
      go_simp
      refine hK _ _ ?_
      exact ⟨_, _, _, _, _, _, _, _, _, _, _, _, _, rfl, R.st0, R.sta, R.st1, R.st2, R.dep, R.dpa, R.dps, R.k0, R.k1, (fun _ => rfl), R.k3, R.k4, R.k5, R.k6, R.k7, R.k8, R.k9, R.k10, R.k12⟩
    · skip
      refine op_at rfl (fun K hK => ?_)
      go_simp
      refine hK _ _ ?_
      exact ⟨_, _, _, _, _, _, _, _, _, _, _, _, _, rfl, R.st0, R.sta, R.st1, R.st2, R.dep, R.dpa, R.dps, R.k0, R.k1, R.k2, (fun _ => rfl), R.k4, R.k5, R.k6, R.k7, R.k8, R.k9, R.k10, R.k12⟩
    · skip
      have e2 := R.k2 (hD 2 (by kernel_rfl))
      subst e2
      have e3 := R.k3 (hD 3 (by kernel_rfl))
      subst e3
      refine op_at rfl (fun K hK => ?_)
      go_simp
      refine hK _ _ ?_
      exact ⟨_, _, _, _, _, _, _, _, _, _, _, _, _, rfl, R.st0, R.sta, R.st1, R.st2, R.dep, R.dpa, R.dps, R.k0, R.k1, R.k2, R.k3, (fun _ => rfl), R.k5, R.k6, R.k7, R.k8, R.k9, R.k10, R.k12⟩
    · skip
      have e4 := R.k4 (hD 4 (by kernel_rfl))
      subst e4
      have ha : Lb 10 = false := by
        cases q : Lb 10 with
        | false => rfl
        | true => have z := R.dep q; simp [hL] at z
      have eW := R.st0 ha
      subst eW
      refine op_at rfl (fun K hK => ?_)
      go_simp
      refine hK _ _ ?_
      exact ⟨_, _, _, _, _, _, _, _, _, _, _, _, _, rfl, R.st0, R.sta, R.st1, R.st2, (fun q => by have q2 : Lb 10 = true := q; rw [ha] at q2; cases q2), R.dpa, R.dps, R.k0, R.k1, R.k2, R.k3, R.k4, (fun _ => rfl), R.k6, R.k7, R.k8, R.k9, R.k10, R.k12⟩
    · skip
      refine op_at rfl (fun K hK => ?_)
      go_simp
      refine hK _ _ ?_
      exact ⟨_, _, _, _, _, _, _, _, _, _, _, _, _, rfl, R.st0, R.sta, R.st1, R.st2, R.dep, R.dpa, R.dps, R.k0, R.k1, R.k2, R.k3, R.k4, R.k5, (fun _ => rfl), R.k7, R.k8, R.k9, R.k10, R.k12⟩
    · skip
      refine op_at rfl (fun K hK => ?_)
      go_simp
      refine hK _ _ ?_
      exact ⟨_, _, _, _, _, _, _, _, _, _, _, _, _, rfl, R.st0, R.sta, R.st1, R.st2, R.dep, R.dpa, R.dps, R.k0, R.k1, R.k2, R.k3, R.k4, R.k5, R.k6, (fun _ => rfl), R.k8, R.k9, R.k10, R.k12⟩
    · skip
      have e6 := R.k6 (hD 6 (by kernel_rfl))
      subst e6
      have e7 := R.k7 (hD 7 (by kernel_rfl))
      subst e7
      refine op_at rfl (fun K hK => ?_)
      go_simp
      refine hK _ _ ?_
      exact ⟨_, _, _, _, _, _, _, _, _, _, _, _, _, rfl, R.st0, R.sta, R.st1, R.st2, R.dep, R.dpa, R.dps, R.k0, R.k1, R.k2, R.k3, R.k4, R.k5, R.k6, R.k7, (fun _ => rfl), R.k9, R.k10, R.k12⟩
    · skip
      have e8 := R.k8 (hD 8 (by kernel_rfl))
      subst e8
      have ha : Lb 10 = false := by
        cases q : Lb 10 with
        | false => rfl
        | true => have z := R.dep q; simp [hL] at z
      have eW := R.st0 ha
      subst eW
      refine op_at rfl (fun K hK => ?_)
      go_simp
      refine hK _ _ ?_
      exact ⟨_, _, _, _, _, _, _, _, _, _, _, _, _, rfl, R.st0, R.sta, R.st1, R.st2, (fun q => by have q2 : Lb 10 = true := q; rw [ha] at q2; cases q2), R.dpa, R.dps, R.k0, R.k1, R.k2, R.k3, R.k4, R.k5, R.k6, R.k7, R.k8, (fun _ => rfl), R.k10, R.k12⟩
    · skip
      have e5 := R.k5 (hD 5 (by kernel_rfl))
      subst e5
      have e9 := R.k9 (hD 9 (by kernel_rfl))
      subst e9
      have eW := R.st0 hL
      subst eW
      have hcf : Lb 11 = false := by
        cases q : Lb 11 with
        | false => rfl
        | true => have z := R.dpa q; rw [hL] at z; cases z
      refine op_at rfl (fun K hK => ?_)
      go_simp
      refine hK _ _ ?_
      exact ⟨_, _, _, _, _, _, _, _, _, _, _, _, _, rfl, (fun q => by cases q), (fun _ _ => rfl), (fun q => by have q2 : Lb 11 = true := q; rw [hcf] at q2; cases q2), (fun q => by have q2 := R.dps q; rw [hcf] at q2; cases q2), (fun _ => ⟨hD 5 (by kernel_rfl), hD 9 (by kernel_rfl)⟩), (fun _ => rfl), R.dps, R.k0, R.k1, R.k2, R.k3, R.k4, R.k5, R.k6, R.k7, R.k8, R.k9, (fun _ => rfl), R.k12⟩
    · skip
      have e10 := R.k10 (hD 10 (by kernel_rfl))
      subst e10
      have eW := R.sta (hD 10 (by kernel_rfl)) hL
      subst eW
      refine op_at rfl (fun K hK => ?_)
      go_simp
      refine (HC.out).mono ?_
      intro e W1 hz
      obtain ⟨J, hz2, e1, e2⟩ := hz.out
      obtain ⟨⟨x0, x1, x2⟩, ⟨y0, y1, y2⟩, rfl, oE, oM, kk⟩ := hz2.out
      simp only [sv]
      go_simp
      refine hK _ _ ?_
      exact ⟨_, _, _, _, _, _, _, _, _, _, _, _, _, rfl, (fun q => by have q2 : Lb 10 = false := q; rw [hD 10 (by kernel_rfl)] at q2; cases q2), (fun _ q => by cases q), (fun _ _ => ⟨(x0, x1, x2), (y0, y1, y2), J, rfl, oE, oM, e1, e2, kk⟩), (fun q => by have q2 := R.dps q; rw [hL] at q2; cases q2), R.dep, (fun _ => hD 10 (by kernel_rfl)), (fun _ => rfl), R.k0, R.k1, R.k2, R.k3, R.k4, R.k5, R.k6, R.k7, R.k8, R.k9, R.k10, R.k12⟩
    · skip
      have e0 := R.k0 (hD 0 (by kernel_rfl))
      subst e0
      have e1 := R.k1 (hD 1 (by kernel_rfl))
      subst e1
      refine op_at rfl (fun K hK => ?_)
      go_simp
      refine hK _ _ ?_
      exact ⟨_, _, _, _, _, _, _, _, _, _, _, _, _, rfl, R.st0, R.sta, R.st1, R.st2, R.dep, R.dpa, R.dps, R.k0, R.k1, R.k2, R.k3, R.k4, R.k5, R.k6, R.k7, R.k8, R.k9, R.k10, (fun _ => rfl)⟩
    · skip
      have e12 := R.k12 (hD 12 (by kernel_rfl))
      subst e12
      have hcc := hD 11 (by kernel_rfl)
      have haa := R.dpa hcc
      have hc := R.st1 hcc hL
      obtain ⟨⟨x0, x1, x2⟩, ⟨y0, y1, y2⟩, J, rfl, oE, oM, e1, e2, kk⟩ := hc
      have kz : Below W0.heap.size W0 W := ((Below.refl W0.heap.size W0).alloc (Nat.le_refl _) _).trans (kk.mono (by simp))
      have g0 : W.cell? ⟨g, t * 2, none⟩ = some (.slice s0 s1 s2) := by rw [kz.cell hgw]; exact c0
      have g1 : W.cell? ⟨g, t * 2 + 1, none⟩ = some (.slice t0 t1 t2) := by rw [kz.cell hgw]; exact c1
      have z0 : W.frozen? ⟨g, t * 2, none⟩ = false := by rw [kz.frozen hgw]; exact f0
      have z1 : W.frozen? ⟨g, t * 2 + 1, none⟩ = false := by rw [kz.frozen hgw]; exact f1
      simp only [sv]
      refine op_at rfl (fun K hK => ?_)
      go_simp
      refine hK _ _ ?_
      exact ⟨_, _, _, _, _, _, _, _, _, _, _, _, _, rfl, (fun q => by have q2 : Lb 10 = false := q; rw [haa] at q2; cases q2), (fun _ q => by have q2 : Lb 11 = false := q; rw [hcc] at q2; cases q2), (fun _ q => by cases q), (fun _ => ⟨W, (x0, x1, x2), (y0, y1, y2), J, rfl, oE, oM, e1, e2, kz⟩), R.dep, R.dpa, (fun _ => hcc), R.k0, R.k1, R.k2, R.k3, R.k4, R.k5, R.k6, R.k7, R.k8, R.k9, R.k10, R.k12⟩
  case refine_2 =>
    intro Lb a' W hI hall
    obtain ⟨u6, u7, u8, u9, u10, u11, u12, u13, u14, u15, u16, u17, u18, rfl, R⟩ := hI
    have hS := R.st2 (hall 13)
    clear R hall
    obtain ⟨W1, s, u, J, rfl, oE, oM, e1, e2, kk⟩ := hS
    have kw := HBW.out W1 kk
    have hO := HO.out.kept kw
    have hsz : w.heap.size ≤ (W0.alloc (.cells #[.slice s0 s1 s2, .slice t0 t1 t2, .slice p0 p1 p2, .slice q0 q1 q2] 36)).heap.size := by have := HSZ.out; simp; omega
    have hP := hO.put htL (oE.mono hsz) (oM.mono hsz)
    have hG := hP.grow
    have hB := ((kw.mono HO.out.lo_le.1).setCell (p := ⟨g, t * 2, none⟩) hgl (sv s)).setCell (p := ⟨g, t * 2 + 1, none⟩) hgl (sv u)
    refine bodyPost_end (v := .tuple #[]) (by simp [results, Try.results23, go_sem]) rfl ?_
    exact TelP.of rfl (HTS.out J e1 e2) hG hB
end Go.Proofs.Ytllajhieocploaa.Rp
namespace Go.Proofs.Ytllajhieocploaa.Bk
set_option linter.unusedVariables false
/-- Right books, whose Keys together are not too many. -/
structure Gok (G : List (List En)) : Prop where
  ok : ∀ b ∈ G, okBk b = true
  len : (whole G).length ≤ 80
theorem Gok.ris {G : List (List En)} (h : Gok G) : AllRis G := fun b hb => ok_ris (h.ok b hb)
theorem Gok.tell {G : List (List En)} (h : Gok G) {f t : Nat} (hf : f < G.length) (ht : t < G.length) : Gok (tell G f t) := by
  have hr := h.ris
  have hw := tell_whole hr hf ht
  refine ⟨fun b hb => ?_, by rw [hw]; exact h.len⟩
  have hl := len_whole (tell_ris hr hf ht) hb
  rw [hw] at hl
  rcases List.mem_or_eq_of_mem_set hb with q | q
  · exact h.ok b q
  · subst q
    have h1 := h.ok _ (at0_mem ht)
    have h2 := h.ok _ (at0_mem hf)
    have j := merge_join _ _ (ok_ris h1) (ok_ris h2)
    exact ok_mk (Nat.le_trans hl h.len) (fun e he => by
      rcases j.mem he with q | q
      · exact ok_all h1 q
      · exact ok_all h2 q) j.ris
end Go.Proofs.Ytllajhieocploaa.Bk
namespace Go.Proofs.Ytllajhieocploaa.Mk
set_option linter.unusedVariables false
structure Gok (G : List (List En)) : Prop where
  ok : ∀ b ∈ G, okBk b = true
theorem Gok.ris {G : List (List En)} (h : Gok G) : AllRis G := fun b hb => ok_ris (h.ok b hb)
theorem Gok.tell {G : List (List En)} (h : Gok G) {f t : Nat} (hf : f < G.length) (ht : t < G.length) : Gok (tell G f t) := by
  refine ⟨fun b hb => ?_⟩
  rcases List.mem_or_eq_of_mem_set hb with q | q
  · exact h.ok b q
  · subst q
    have h1 := h.ok _ (at0_mem ht)
    have h2 := h.ok _ (at0_mem hf)
    exact merge_ok h1 h2 (merge_join _ _ (ok_ris h1) (ok_ris h2))
end Go.Proofs.Ytllajhieocploaa.Mk
namespace Go.Proofs.Ytllajhieocploaa.Rp
open Go.ChangeShapes Go.WideShapes Go.ChangeAt Go.RowKit
open Go.Proofs.Ytllajhieocploaa.Vv (Sl sv hidIt)
set_option linter.unusedVariables false
theorem okG_iff (L : List Rep) : okG L = true ↔ 1 ≤ L.length ∧ L.length ≤ 6 ∧ Bk.Gok (bks L) ∧ Mk.Gok (mbs L) := by
  constructor
  · intro h
    obtain ⟨h1, h2, h3, h4⟩ := okG_all h
    refine ⟨h1, h2, ⟨fun b hb => ?_, h4⟩, ⟨fun b hb => ?_⟩⟩
    · obtain ⟨r, hr, rfl⟩ := List.mem_map.1 hb
      obtain ⟨i, hi, rfl⟩ := List.mem_iff_getElem.1 hr
      have := h3 i hi
      rw [rat_at hi] at this
      unfold okR at this
      rw [Bool.and_eq_true] at this
      exact this.1
    · obtain ⟨r, hr, rfl⟩ := List.mem_map.1 hb
      obtain ⟨i, hi, rfl⟩ := List.mem_iff_getElem.1 hr
      have := h3 i hi
      rw [rat_at hi] at this
      unfold okR at this
      rw [Bool.and_eq_true] at this
      exact this.2
  · rintro ⟨h1, h2, h3, h4⟩
    refine okG_mk h1 h2 (fun i hi => ?_) h3.len
    unfold okR
    rw [Bool.and_eq_true]
    exact ⟨h3.ok _ (List.mem_map.2 ⟨_, rat_mem hi, rfl⟩), h4.ok _ (List.mem_map.2 ⟨_, rat_mem hi, rfl⟩)⟩
theorem okG_tell {L M : List Rep} {f t : Nat} (h : okG L = true) (hf : f < L.length) (ht : t < L.length) (k : TellR L M f t) : okG M = true := by
  obtain ⟨h1, h2, h3, h4⟩ := (okG_iff L).1 h
  refine (okG_iff M).2 ⟨by rw [k.len]; exact h1, by rw [k.len]; exact h2, ?_, ?_⟩
  · rw [k.bk]; exact h3.tell (by rw [bks_length]; exact hf) (by rw [bks_length]; exact ht)
  · rw [k.mb]; exact h4.tell (by rw [mbs_length]; exact hf) (by rw [mbs_length]; exact ht)
theorem rows_inj {M M' : List Rep} (h1 : bks M = bks M') (h2 : mbs M = mbs M') : M = M' := by
  have hl : M.length = M'.length := by rw [← bks_length M, h1, bks_length]
  refine ext_rat hl (fun i hi => ?_)
  have e1 := bks_at hi
  have e2 := mbs_at hi
  rw [h1, bks_at (by omega)] at e1
  rw [h2, mbs_at (by omega)] at e2
  exact Prod.ext (En.toB_inj e1).symm (Mm.toB_inj e2).symm
theorem rowsE {A B : List En.Rw} {K : List Bk.En} (h : ∀ e ∈ K, e ∈ En.toB A ∨ e ∈ En.toB B) : ∃ J, En.toB J = K := by
  induction K with
  | nil => exact ⟨[], rfl⟩
  | cons e K ih =>
    obtain ⟨J, hJ⟩ := ih (fun x hx => h x (List.mem_cons_of_mem _ hx))
    obtain ⟨x, hx⟩ : ∃ x : En.Rw, En.toE x = e := by
      rcases h e (List.mem_cons_self ..) with q | q
      · obtain ⟨x, _, hx⟩ := List.mem_map.1 q; exact ⟨x, hx⟩
      · obtain ⟨x, _, hx⟩ := List.mem_map.1 q; exact ⟨x, hx⟩
    exact ⟨x :: J, by rw [← hJ, ← hx]; rfl⟩
theorem rowsM {A B : List Mm.Rw} {K : List Mk.En} (h : ∀ e ∈ K, e ∈ Mm.toB A ∨ e ∈ Mm.toB B) : ∃ J, Mm.toB J = K := by
  induction K with
  | nil => exact ⟨[], rfl⟩
  | cons e K ih =>
    obtain ⟨J, hJ⟩ := ih (fun x hx => h x (List.mem_cons_of_mem _ hx))
    obtain ⟨x, hx⟩ : ∃ x : Mm.Rw, Mm.toE x = e := by
      rcases h e (List.mem_cons_self ..) with q | q
      · obtain ⟨x, _, hx⟩ := List.mem_map.1 q; exact ⟨x, hx⟩
      · obtain ⟨x, _, hx⟩ := List.mem_map.1 q; exact ⟨x, hx⟩
    exact ⟨x :: J, by rw [← hJ, ← hx]; rfl⟩
/-- There is one that is told so. -/
theorem tell_is (L : List Rep) {f t : Nat} (hf : f < L.length) (ht : t < L.length) : ∃ M, TellR L M f t := by
  obtain ⟨J1, h1⟩ := rowsE (A := (rat L t).1) (B := (rat L f).1) (K := Bk.mergeE (En.toB (rat L t).1) (En.toB (rat L f).1)) (fun e he => Bk.merge_mem _ _ he)
  obtain ⟨J2, h2⟩ := rowsM (A := (rat L t).2) (B := (rat L f).2) (K := Mk.mergeE (Mm.toB (rat L t).2) (Mm.toB (rat L f).2)) (fun e he => Mk.merge_mem _ _ he)
  refine ⟨L.set t (J1, J2), tell_set hf ht ?_ ?_⟩
  · rw [h1]
    show _ = Bk.mergeE (Bk.mergeE [] _) _
    rw [Bk.mergeE_nil]
  · rw [h2]
    show _ = Mk.mergeE (Mk.mergeE [] _) _
    rw [Mk.mergeE_nil]
/-- In range, and two. -/
def inG (n : Nat) (f t : Int) : Prop := 0 ≤ f ∧ f < n ∧ 0 ≤ t ∧ t < n ∧ f ≠ t
/-- What Told answers. -/
structure ToldR (L : List Rep) (f t : Int) (M : List Rep) (b : Bool) : Prop where
  no : okG L = false → M = [] ∧ b = false
  out : okG L = true → ¬ inG L.length f t → M = L ∧ b = false
  yes : okG L = true → inG L.length f t → TellR L M f.toNat t.toNat ∧ b = true
theorem ToldR.unique {L M M' : List Rep} {f t : Int} {b b' : Bool} (h : ToldR L f t M b) (h' : ToldR L f t M' b') : M = M' ∧ b = b' := by
  cases ok : okG L with
  | false =>
    obtain ⟨rfl, rfl⟩ := h.no ok
    obtain ⟨rfl, rfl⟩ := h'.no ok
    exact ⟨rfl, rfl⟩
  | true =>
    rcases Classical.em (inG L.length f t) with q | q
    · obtain ⟨k, rfl⟩ := h.yes ok q
      obtain ⟨k', rfl⟩ := h'.yes ok q
      exact ⟨rows_inj (k.bk.trans k'.bk.symm) (k.mb.trans k'.mb.symm), rfl⟩
    · obtain ⟨rfl, rfl⟩ := h.out ok q
      obtain ⟨rfl, rfl⟩ := h'.out ok q
      exact ⟨rfl, rfl⟩
theorem ToldR.mkNo {L : List Rep} {f t : Int} (ok : okG L = false) : ToldR L f t [] false := ⟨fun _ => ⟨rfl, rfl⟩, (fun q => by rw [ok] at q; cases q), (fun q => by rw [ok] at q; cases q)⟩
theorem ToldR.mkOut {L : List Rep} {f t : Int} (ok : okG L = true) (h : ¬ inG L.length f t) : ToldR L f t L false := ⟨(fun q => by rw [ok] at q; cases q), fun _ _ => ⟨rfl, rfl⟩, fun _ q => absurd q h⟩
theorem ToldR.mkYes {L M : List Rep} {f t : Int} (ok : okG L = true) (h : inG L.length f t) (k : TellR L M f.toNat t.toNat) : ToldR L f t M true := ⟨(fun q => by rw [ok] at q; cases q), fun _ q => absurd h q, fun _ _ => ⟨k, rfl⟩⟩
theorem told_is (L : List Rep) (f t : Int) : ∃ M b, ToldR L f t M b := by
  cases ok : okG L with
  | false => exact ⟨_, _, .mkNo ok⟩
  | true =>
    rcases Classical.em (inG L.length f t) with q | q
    · obtain ⟨M, hM⟩ := tell_is L (f := f.toNat) (t := t.toNat) (by unfold inG at q; omega) (by unfold inG at q; omega)
      exact ⟨_, _, .mkYes ok q hM⟩
    · exact ⟨_, _, .mkOut ok q⟩
def TolP (L : List Rep) (f t : Int) (w : World) (e : Ending) (w' : World) : Prop := ∃ v M b, e = .returned (.tuple #[v, .bool b]) ∧ ToldR L f t M b ∧ Own w' w.heap.size w'.heap.size v M ∧ Below w.heap.size w w'
theorem TolP.of {L M : List Rep} {f t : Int} {w w' : World} {e : Ending} {v : Value} {b : Bool} (h : e = .returned (.tuple #[v, .bool b])) (h1 : ToldR L f t M b) (h2 : Own w' w.heap.size w'.heap.size v M) (h3 : Below w.heap.size w w') : TolP L f t w e w' := ⟨v, M, b, h, h1, h2, h3⟩
theorem TolP.out {L : List Rep} {f t : Int} {w w' : World} {e : Ending} (h : TolP L f t w e w') : ∃ v M b, e = .returned (.tuple #[v, .bool b]) ∧ ToldR L f t M b ∧ Own w' w.heap.size w'.heap.size v M ∧ Below w.heap.size w w' := h
theorem own_zero {w : World} {lo hi : Nat} {a : Option Addr} {m cap : Nat} {L : List Rep} (h : Own w lo hi (.slice a m cap) L) (hl : 0 < L.length) : ∃ g, a = some ⟨g, 0, none⟩ := by
  obtain ⟨C, h⟩ := h
  obtain ⟨a', c', e', _, _, r, _, hs⟩ := h.row.form
  obtain ⟨rfl, _, _⟩ := Value.slice.inj e'
  obtain ⟨b, off, e, _⟩ := r.cell 0 (by rw [h.len]; exact hl)
  obtain ⟨g, eg, _⟩ := hs _ e
  rw [e, eg]
  exact ⟨g, rfl⟩
set_option maxRecDepth 100000 in
set_option maxHeartbeats 8000000 in
theorem spec_Told (a : Option Addr) (cap : Nat) (L : List Rep) (f t : Int) (w : World) (h : Rd w a L) (hs : Short L) (hl : L.length ≤ 9223372036854775807) (hlb : ∀ i, i < L.length → (rat L i).1.length ≤ 9223372036854775807 ∧ (rat L i).2.length ≤ 9223372036854775807) :
    Calls Try.prog 7 #[.slice a L.length cap, .int .i64 f, .int .i64 t] w fun e w' => TolP L f t w e w' := by
  have CG := hidIt (fun W (r : Rd W a L) => spec_GroupOk a cap L W r hs hl hlb)
  have HR := hidIt h
  clear h hs hlb
  cases ok : okG L with
  | false =>
    rw [ok] at CG
    have HT := hidIt (ToldR.mkNo (f := f) (t := t) ok)
    clear ok
    generalize L.length = m at *
    go_enter Try.func7, Try.ntmps7
    go_wp2_with (fail)
    refine (CG.out _ HR.out).mono ?_
    rintro e w1 ⟨rfl, k⟩
    have HB1 := hidIt k
    clear k
    go_wp2_with (fail)
    refine bodyPost_ret (v := .tuple #[.slice (some ⟨w1.heap.size, 0, none⟩) 0 0, .bool false]) (by simp [results, Try.results7, go_sem]) rfl ?_
    exact TolP.of rfl HT.out ((Own.new w1).mono HB1.out.size (by simp) (Nat.le_refl _)) (HB1.out.alloc HB1.out.size _)
  | true =>
    rw [ok] at CG
    have hT := okG_tame ok
    have hall := okG_all ok
    have h1 := hall.1
    have h6 := hall.2.1
    have CC := hidIt (fun W (r : Rd W a L) => spec_l13Copy a cap L W r hT)
    have CT := hidIt (fun lo g cp (f' t' : Nat) W (o : Own W lo W.heap.size (.slice (some ⟨g, 0, none⟩) L.length cp) L) hf ht => spec_l13Tell lo g L.length cp f' t' L W o hT rfl hf ht)
    have HTO := hidIt (fun (q : ¬ inG L.length f t) => ToldR.mkOut (f := f) (t := t) ok q)
    have HTY := hidIt (fun M (q : inG L.length f t) (k : TellR L M f.toNat t.toNat) => ToldR.mkYes (f := f) (t := t) ok q k)
    clear ok hall hT
    generalize hn : L.length = m at *
    have HN := hidIt hn
    clear hn
    go_enter Try.func7, Try.ntmps7
    go_wp2_with (fail)
    refine (CG.out _ HR.out).mono ?_
    rintro e w1 ⟨rfl, k⟩
    have HB1 := hidIt k
    clear k
    go_wp2_with (fail)
    refine (CC.out _ (HR.out.kept HB1.out)).mono ?_
    intro e w2 hz
    obtain ⟨v, rfl, o2, k2⟩ := hz.out
    obtain ⟨va, vc, ev, hvc, hvm, hvn⟩ := o2.formN HN.out
    subst ev
    obtain ⟨g, eg⟩ := own_zero o2 (by rw [HN.out]; exact h1)
    subst eg
    have HB2 := hidIt (on HB1.out k2)
    have HO2 := hidIt (o2.mono HB1.out.size (Nat.le_refl _) (Nat.le_refl _))
    clear hz o2 k2 hvn CG CC
    by_cases q : inG m f t
    · unfold inG at q
      obtain ⟨f', rfl⟩ : ∃ f' : Nat, f = (f' : Int) := ⟨f.toNat, by omega⟩
      obtain ⟨t', rfl⟩ : ∃ t' : Nat, t = (t' : Int) := ⟨t.toNat, by omega⟩
      have z1 : decide ((f' : Int) < 0) = false := decide_eq_false (by omega)
      have z2 : decide ((m : Int) ≤ (f' : Int)) = false := decide_eq_false (by omega)
      have z3 : decide ((t' : Int) < 0) = false := decide_eq_false (by omega)
      have z4 : decide ((m : Int) ≤ (t' : Int)) = false := decide_eq_false (by omega)
      have z5 : ((f' : Int) == (t' : Int)) = false := by simpa using q.2.2.2.2
      have z6 : decide (m ≤ f') = false := decide_eq_false (by omega)
      have z7 : decide (m ≤ t') = false := decide_eq_false (by omega)
      have z8 : f' < m := by omega
      have z9 : t' < m := by omega
      have z10 : ¬ f' = t' := by omega
      have CT1 := hidIt (CT.out w.heap.size g vc f' t' w2 HO2.out (by omega) (by omega))
      have HTY1 := hidIt (fun M (k : TellR L M f' t') => HTY.out M q (by simpa using k))
      clear q CT HTY HTO
      go_wp2_with (fail)
      refine CT1.out.mono ?_
      intro e w3 hz
      obtain ⟨rfl, M, hM, o3, k3⟩ := hz.out
      have HB3 := hidIt (HB2.out.trans k3)
      have HO3 := hidIt o3
      have HT := hidIt (HTY1.out M hM)
      clear hz o3 k3 hM
      go_wp2_with (fail)
      refine bodyPost_ret (v := .tuple #[.slice (some ⟨g, 0, none⟩) m vc, .bool true]) (by simp [results, Try.results7, go_sem]) rfl ?_
      exact TolP.of rfl HT.out HO3.out HB3.out
    · have HT := hidIt (HTO.out q)
      clear CT HTY HTO
      by_cases z1 : f < 0
      · have z1' : decide (f < 0) = true := decide_eq_true z1
        clear q
        go_wp2_with (fail)
        refine bodyPost_ret (v := .tuple #[.slice (some ⟨g, 0, none⟩) m vc, .bool false]) (by simp [results, Try.results7, go_sem]) rfl ?_
        exact TolP.of rfl HT.out HO2.out HB2.out
      · have z1' : decide (f < 0) = false := decide_eq_false z1
        by_cases z2 : (m : Int) ≤ f
        · have z2' : decide ((m : Int) ≤ f) = true := decide_eq_true z2
          clear q
          go_wp2_with (fail)
          refine bodyPost_ret (v := .tuple #[.slice (some ⟨g, 0, none⟩) m vc, .bool false]) (by simp [results, Try.results7, go_sem]) rfl ?_
          exact TolP.of rfl HT.out HO2.out HB2.out
        · have z2' : decide ((m : Int) ≤ f) = false := decide_eq_false z2
          by_cases z3 : t < 0
          · have z3' : decide (t < 0) = true := decide_eq_true z3
            clear q
            go_wp2_with (fail)
            refine bodyPost_ret (v := .tuple #[.slice (some ⟨g, 0, none⟩) m vc, .bool false]) (by simp [results, Try.results7, go_sem]) rfl ?_
            exact TolP.of rfl HT.out HO2.out HB2.out
          · have z3' : decide (t < 0) = false := decide_eq_false z3
            by_cases z4 : (m : Int) ≤ t
            · have z4' : decide ((m : Int) ≤ t) = true := decide_eq_true z4
              clear q
              go_wp2_with (fail)
              refine bodyPost_ret (v := .tuple #[.slice (some ⟨g, 0, none⟩) m vc, .bool false]) (by simp [results, Try.results7, go_sem]) rfl ?_
              exact TolP.of rfl HT.out HO2.out HB2.out
            · have z4' : decide ((m : Int) ≤ t) = false := decide_eq_false z4
              have ef : f = t := by
                unfold inG at q
                omega
              subst ef
              have z5 : (f == f) = true := by simp
              clear q
              go_wp2_with (fail)
              refine bodyPost_ret (v := .tuple #[.slice (some ⟨g, 0, none⟩) m vc, .bool false]) (by simp [results, Try.results7, go_sem]) rfl ?_
              exact TolP.of rfl HT.out HO2.out HB2.out
end Go.Proofs.Ytllajhieocploaa.Rp
namespace Go.Proofs.Ytllajhieocploaa.Rp
open Go.ChangeShapes Go.WideShapes Go.ChangeAt Go.RowKit
open Go.Proofs.Ytllajhieocploaa.Vv (Sl sv hidIt)
set_option linter.unusedVariables false
/-- What Around answers. -/
structure ArndR (L M : List Rep) : Prop where
  no : okG L = false → M = []
  bk : okG L = true → bks M = Bk.around (bks L)
  mb : okG L = true → mbs M = Mk.around (mbs L)
theorem ArndR.unique {L M M' : List Rep} (h : ArndR L M) (h' : ArndR L M') : M = M' := by
  cases ok : okG L with
  | false => rw [h.no ok, h'.no ok]
  | true => exact rows_inj ((h.bk ok).trans (h'.bk ok).symm) ((h.mb ok).trans (h'.mb ok).symm)
theorem ArndR.mkNo {L : List Rep} (ok : okG L = false) : ArndR L [] := ⟨fun _ => rfl, (fun q => by rw [ok] at q; cases q), (fun q => by rw [ok] at q; cases q)⟩
theorem ArndR.mkYes {L M : List Rep} (ok : okG L = true) (h1 : bks M = Bk.around (bks L)) (h2 : mbs M = Mk.around (mbs L)) : ArndR L M := ⟨(fun q => by rw [ok] at q; cases q), fun _ => h1, fun _ => h2⟩
/-- Rows for what all come to. -/
theorem whole_is {L : List Rep} (h : Tame L) : ∃ J : Rep, En.toB J.1 = Bk.whole (bks L) ∧ Mm.toB J.2 = Mk.whole (mbs L) := by
  have e : ∀ K : List Bk.En, (∀ x ∈ K, ∃ y : En.Rw, En.toE y = x) → ∃ J, En.toB J = K := by
    intro K
    induction K with
    | nil => intro _; exact ⟨[], rfl⟩
    | cons x K ih =>
      intro hk
      obtain ⟨J, hJ⟩ := ih (fun z hz => hk z (List.mem_cons_of_mem _ hz))
      obtain ⟨y, hy⟩ := hk x (List.mem_cons_self ..)
      exact ⟨y :: J, by rw [← hJ, ← hy]; rfl⟩
  have e' : ∀ K : List Mk.En, (∀ x ∈ K, ∃ y : Mm.Rw, Mm.toE y = x) → ∃ J, Mm.toB J = K := by
    intro K
    induction K with
    | nil => intro _; exact ⟨[], rfl⟩
    | cons x K ih =>
      intro hk
      obtain ⟨J, hJ⟩ := ih (fun z hz => hk z (List.mem_cons_of_mem _ hz))
      obtain ⟨y, hy⟩ := hk x (List.mem_cons_self ..)
      exact ⟨y :: J, by rw [← hJ, ← hy]; rfl⟩
  obtain ⟨J1, h1⟩ := e (Bk.whole (bks L)) (fun x hx => by
    obtain ⟨b, hb, hxb⟩ := Bk.whole_mem h.bris hx
    obtain ⟨r, _, rfl⟩ := List.mem_map.1 hb
    obtain ⟨y, _, hy⟩ := List.mem_map.1 hxb
    exact ⟨y, hy⟩)
  obtain ⟨J2, h2⟩ := e' (Mk.whole (mbs L)) (fun x hx => by
    obtain ⟨b, hb, hxb⟩ := Mk.whole_mem h.mris hx
    obtain ⟨r, _, rfl⟩ := List.mem_map.1 hb
    obtain ⟨y, _, hy⟩ := List.mem_map.1 hxb
    exact ⟨y, hy⟩)
  exact ⟨(J1, J2), h1, h2⟩
theorem arnd_is (L : List Rep) : ∃ M, ArndR L M := by
  cases ok : okG L with
  | false => exact ⟨_, .mkNo ok⟩
  | true =>
    have hT := okG_tame ok
    obtain ⟨J, h1, h2⟩ := whole_is hT
    refine ⟨List.replicate L.length J, .mkYes ok ?_ ?_⟩
    · rw [Bk.around_eq hT.bris, bks_length, ← h1]
      unfold bks
      rw [List.map_replicate]
    · rw [Mk.around_eq hT.mris, mbs_length, ← h2]
      unfold mbs
      rw [List.map_replicate]
/-- What l13Around leaves. -/
def ArlP (lo g m cap : Nat) (L : List Rep) (w : World) (e : Ending) (w' : World) : Prop := e = .returned (.tuple #[]) ∧ ∃ M, (bks M = Bk.around (bks L) ∧ mbs M = Mk.around (mbs L)) ∧ Own w' lo w'.heap.size (.slice (some ⟨g, 0, none⟩) m cap) M ∧ Below lo w w'
theorem ArlP.of {lo g m cap : Nat} {L : List Rep} {w w' : World} {e : Ending} {M : List Rep} (h : e = .returned (.tuple #[])) (h1 : bks M = Bk.around (bks L)) (h2 : mbs M = Mk.around (mbs L)) (h3 : Own w' lo w'.heap.size (.slice (some ⟨g, 0, none⟩) m cap) M) (h4 : Below lo w w') : ArlP lo g m cap L w e w' := ⟨h, M, ⟨h1, h2⟩, h3, h4⟩
theorem ArlP.out {lo g m cap : Nat} {L : List Rep} {w w' : World} {e : Ending} (h : ArlP lo g m cap L w e w') : e = .returned (.tuple #[]) ∧ ∃ M, (bks M = Bk.around (bks L) ∧ mbs M = Mk.around (mbs L)) ∧ Own w' lo w'.heap.size (.slice (some ⟨g, 0, none⟩) m cap) M ∧ Below lo w w' := h
set_option maxRecDepth 100000 in
set_option maxHeartbeats 8000000 in
theorem spec_l13Around (lo g m cap : Nat) (L : List Rep) (w : World) (h : Own w lo w.heap.size (.slice (some ⟨g, 0, none⟩) m cap) L) (ok : okG L = true) (hm : L.length = m) :
    Calls Try.prog 33 #[.slice (some ⟨g, 0, none⟩) m cap] w fun e w' => ArlP lo g m cap L w e w' := by
  have hall := okG_all ok
  have h1 : 1 ≤ m := by rw [← hm]; exact hall.1
  have h6 : m ≤ 6 := by rw [← hm]; exact hall.2.1
  have CT := hidIt (fun (f t : Nat) (K : List Rep) W (o : Own W lo W.heap.size (.slice (some ⟨g, 0, none⟩) m cap) K) (ok : okG K = true) (hk : K.length = m) hf ht => spec_l13Tell lo g m cap f t K W o (okG_tame ok) hk hf ht)
  have HOT := hidIt (fun (K M : List Rep) (f t : Nat) (ok : okG K = true) hf ht (k : TellR K M f t) => okG_tell ok hf ht k)
  have HLB : Hid ((bks L).length = m) := hidIt (by rw [bks_length]; exact hm)
  have HLM : Hid ((mbs L).length = m) := hidIt (by rw [mbs_length]; exact hm)
  have HO := hidIt h
  have HOK := hidIt ok
  have HM := hidIt hm
  clear h ok hm hall
  go_enter Try.func33, Try.ntmps33
  go_wp2_with (fail)
  go_loopw [2] (fun y wx => ∃ (i : Nat) (M : List Rep), y = .int .i64 i ∧ i + 1 ≤ m ∧ Hid (M.length = m) ∧ Hid (okG M = true) ∧ Hid (bks M = Bk.pass (bks L) i) ∧ Hid (mbs M = Mk.pass (mbs L) i) ∧ Hid (Own wx lo wx.heap.size (.slice (some ⟨g, 0, none⟩) m cap) M) ∧ Hid (Below lo w wx)) (fun y _ => (m - intOf y).toNat)
  case atStart => exact ⟨0, L, rfl, by omega, HM, HOK, hidIt rfl, hidIt rfl, HO, hidIt (Below.refl _ _)⟩
  case round =>
    obtain ⟨i, M, rfl, hi, hML, hMK, hB, hMb, HOx, HBx⟩ := hrel
    clear HO
    by_cases hin : i + 1 < m
    · have hin' : (i : Int) + 1 < (m : Int) := by omega
      have C := hidIt (CT.out i (i + 1) M wr HOx.out hMK.out hML.out (by omega) hin)
      rw [show ((i + 1 : Nat) : Int) = (i : Int) + 1 from by omega] at C
      go_wp2_with (fail)
      refine C.out.mono ?_
      intro e w1 hz
      obtain ⟨rfl, M', hM', o', k'⟩ := hz.out
      have HO1 := hidIt o'
      have HB1 := hidIt (HBx.out.trans k')
      have HK1 := hidIt (HOT.out M M' i (i + 1) hMK.out (by rw [hML.out]; omega) (by rw [hML.out]; omega) hM')
      have HL1 : Hid (M'.length = m) := hidIt (hM'.len.trans hML.out)
      have HE1 : Hid (bks M' = Bk.pass (bks L) (i + 1)) := hidIt (by rw [hM'.bk, hB.out, Bk.pass_succ])
      have HE2 : Hid (mbs M' = Mk.pass (mbs L) (i + 1)) := hidIt (by rw [hM'.mb, hMb.out, Mk.pass_succ])
      clear hz o' k' hM' C HOx HBx hB hMb hMK hML
      go_wp2_with (fail)
      exact ⟨⟨i + 1, M', by simp, by omega, HL1, HK1, HE1, HE2, HO1, HB1⟩, by simp [intOf]; omega⟩
    · have hin' : ¬ (i : Int) + 1 < (m : Int) := by omega
      have him : Hid (i = m - 1) := hidIt (by omega)
      by_cases hm1 : 1 < m
      · have hm1' : (1 : Int) < (m : Int) := by omega
        have C := hidIt (CT.out (m - 1) 0 M wr HOx.out hMK.out hML.out (by omega) (by omega))
        rw [show ((m - 1 : Nat) : Int) = (m : Int) - 1 from by omega] at C
        simp only [Int.natCast_zero] at C
        go_wp2_with (fail)
        refine C.out.mono ?_
        intro e w1 hz
        obtain ⟨rfl, M', hM', o', k'⟩ := hz.out
        have HO1 := hidIt o'
        have HB1 := hidIt (HBx.out.trans k')
        have HK1 := hidIt (HOT.out M M' (m - 1) 0 hMK.out (by rw [hML.out]; omega) (by rw [hML.out]; omega) hM')
        have HL1 : Hid (M'.length = m) := hidIt (hM'.len.trans hML.out)
        have HE1 : Hid (bks M' = Bk.round1 (bks L)) := hidIt (by
          unfold Bk.round1
          rw [HLB.out, if_pos hm1, hM'.bk, hB.out, him.out])
        have HE2 : Hid (mbs M' = Mk.round1 (mbs L)) := hidIt (by
          unfold Mk.round1
          rw [HLM.out, if_pos hm1, hM'.mb, hMb.out, him.out])
        clear hz o' k' hM' C HOx HBx hB hMb hMK hML him
        go_wp2_with (fail)
        go_loopw [3] (fun y wx => ∃ (i : Nat) (K : List Rep), y = .int .i64 i ∧ i + 1 ≤ m ∧ Hid (K.length = m) ∧ Hid (okG K = true) ∧ Hid (bks K = Bk.pass (Bk.round1 (bks L)) i) ∧ Hid (mbs K = Mk.pass (Mk.round1 (mbs L)) i) ∧ Hid (Own wx lo wx.heap.size (.slice (some ⟨g, 0, none⟩) m cap) K) ∧ Hid (Below lo w wx)) (fun y _ => (m - intOf y).toNat)
        case atStart => exact ⟨0, M', rfl, by omega, HL1, HK1, HE1, HE2, HO1, HB1⟩
        case round =>
          obtain ⟨j, K, rfl, hj, hKL, hKK, hKB, hKM, HOk, HBk⟩ := hrel
          clear HO1 HB1 HK1 HL1 HE1 HE2
          by_cases hjn : j + 1 < m
          · have hjn' : (j : Int) + 1 < (m : Int) := by omega
            have C := hidIt (CT.out j (j + 1) K wr HOk.out hKK.out hKL.out (by omega) hjn)
            rw [show ((j + 1 : Nat) : Int) = (j : Int) + 1 from by omega] at C
            go_wp2_with (fail)
            refine C.out.mono ?_
            intro e w2 hz
            obtain ⟨rfl, K', hK', o', k'⟩ := hz.out
            have HO2 := hidIt o'
            have HB2 := hidIt (HBk.out.trans k')
            have HK2 := hidIt (HOT.out K K' j (j + 1) hKK.out (by rw [hKL.out]; omega) (by rw [hKL.out]; omega) hK')
            have HL2 : Hid (K'.length = m) := hidIt (hK'.len.trans hKL.out)
            have HE3 : Hid (bks K' = Bk.pass (Bk.round1 (bks L)) (j + 1)) := hidIt (by rw [hK'.bk, hKB.out, Bk.pass_succ])
            have HE4 : Hid (mbs K' = Mk.pass (Mk.round1 (mbs L)) (j + 1)) := hidIt (by rw [hK'.mb, hKM.out, Mk.pass_succ])
            clear hz o' k' hK' C HOk HBk hKB hKM hKK hKL
            go_wp2_with (fail)
            exact ⟨⟨j + 1, K', by simp, by omega, HL2, HK2, HE3, HE4, HO2, HB2⟩, by simp [intOf]; omega⟩
          · have hjn' : ¬ (j : Int) + 1 < (m : Int) := by omega
            have hjm : Hid (j = m - 1) := hidIt (by omega)
            have E1 : Hid (bks K = Bk.around (bks L)) := hidIt (by unfold Bk.around; rw [HLB.out, hKB.out, hjm.out])
            have E2 : Hid (mbs K = Mk.around (mbs L)) := hidIt (by unfold Mk.around; rw [HLM.out, hKM.out, hjm.out])
            go_wp2_with (fail)
            refine bodyPost_end (v := .tuple #[]) (by simp [results, Try.results33, go_sem]) rfl ?_
            exact ArlP.of rfl E1.out E2.out HOk.out HBk.out
      · have hm1' : ¬ (1 : Int) < (m : Int) := by omega
        obtain rfl : m = 1 := by omega
        have hi0 : Hid (i = 0) := hidIt (by omega)
        have E1 : Hid (bks M = Bk.around (bks L)) := hidIt (by
          unfold Bk.around Bk.round1
          rw [HLB.out, if_neg (by omega), hB.out, hi0.out]
          rfl)
        have E2 : Hid (mbs M = Mk.around (mbs L)) := hidIt (by
          unfold Mk.around Mk.round1
          rw [HLM.out, if_neg (by omega), hMb.out, hi0.out]
          rfl)
        go_wp2_with (fail)
        go_loopw [3] (fun y wx => y = .int .i64 0 ∧ Hid (Own wx lo wx.heap.size (.slice (some ⟨g, 0, none⟩) 1 cap) M) ∧ Hid (Below lo w wx)) (fun y _ => (1 - intOf y).toNat)
        case atStart => exact ⟨rfl, HOx, HBx⟩
        case round =>
          obtain ⟨rfl, HOk, HBk⟩ := hrel
          go_wp2_with (fail)
          refine bodyPost_end (v := .tuple #[]) (by simp [results, Try.results33, go_sem]) rfl ?_
          exact ArlP.of rfl E1.out E2.out HOk.out HBk.out
def ArnP (L : List Rep) (w : World) (e : Ending) (w' : World) : Prop := ∃ M, ArndR L M ∧ LstP w M e w'
theorem ArnP.of {L M : List Rep} {w w' : World} {e : Ending} (h1 : ArndR L M) (h : LstP w M e w') : ArnP L w e w' := ⟨M, h1, h⟩
theorem ArnP.out {L : List Rep} {w w' : World} {e : Ending} (h : ArnP L w e w') : ∃ M, ArndR L M ∧ LstP w M e w' := h
set_option maxRecDepth 100000 in
set_option maxHeartbeats 8000000 in
theorem spec_Around (a : Option Addr) (cap : Nat) (L : List Rep) (w : World) (h : Rd w a L) (hs : Short L) (hl : L.length ≤ 9223372036854775807) (hlb : ∀ i, i < L.length → (rat L i).1.length ≤ 9223372036854775807 ∧ (rat L i).2.length ≤ 9223372036854775807) :
    Calls Try.prog 13 #[.slice a L.length cap] w fun e w' => ArnP L w e w' := by
  have CG := hidIt (fun W (r : Rd W a L) => spec_GroupOk a cap L W r hs hl hlb)
  have HR := hidIt h
  clear h hs hlb
  cases ok : okG L with
  | false =>
    rw [ok] at CG
    have HT := hidIt (ArndR.mkNo ok)
    clear ok
    generalize L.length = m at *
    go_enter Try.func13, Try.ntmps13
    go_wp2_with (fail)
    refine (CG.out _ HR.out).mono ?_
    rintro e w1 ⟨rfl, k⟩
    have HB1 := hidIt k
    clear k
    go_wp2_with (fail)
    go_ret
    exact ArnP.of HT.out (LstP.of rfl ((Own.new w1).mono HB1.out.size (by simp) (Nat.le_refl _)) (HB1.out.alloc HB1.out.size _))
  | true =>
    rw [ok] at CG
    have hT := okG_tame ok
    have h1 := (okG_all ok).1
    have CC := hidIt (fun W (r : Rd W a L) => spec_l13Copy a cap L W r hT)
    have CA := hidIt (fun lo g cp W (o : Own W lo W.heap.size (.slice (some ⟨g, 0, none⟩) L.length cp) L) => spec_l13Around lo g L.length cp L W o ok rfl)
    have HTY := hidIt (fun M h1 h2 => ArndR.mkYes (M := M) ok h1 h2)
    clear ok hT
    generalize hn : L.length = m at *
    have HN := hidIt hn
    clear hn
    go_enter Try.func13, Try.ntmps13
    go_wp2_with (fail)
    refine (CG.out _ HR.out).mono ?_
    rintro e w1 ⟨rfl, k⟩
    have HB1 := hidIt k
    clear k
    go_wp2_with (fail)
    refine (CC.out _ (HR.out.kept HB1.out)).mono ?_
    intro e w2 hz
    obtain ⟨v, rfl, o2, k2⟩ := hz.out
    obtain ⟨va, vc, ev, hvc, hvm, hvn⟩ := o2.formN HN.out
    subst ev
    obtain ⟨g, eg⟩ := own_zero o2 (by rw [HN.out]; exact h1)
    subst eg
    have HB2 := hidIt (on HB1.out k2)
    have HO2 := hidIt (o2.mono HB1.out.size (Nat.le_refl _) (Nat.le_refl _))
    have CA1 := hidIt (CA.out w.heap.size g vc w2 HO2.out)
    clear hz o2 k2 hvn CG CC CA
    go_wp2_with (fail)
    refine CA1.out.mono ?_
    intro e w3 hz
    obtain ⟨rfl, M, ⟨e1, e2⟩, o3, k3⟩ := hz.out
    have HB3 := hidIt (HB2.out.trans k3)
    have HO3 := hidIt o3
    have HT := hidIt (HTY.out M e1 e2)
    clear hz o3 k3 e1 e2
    go_wp2_with (fail)
    go_ret
    exact ArnP.of HT.out (LstP.of rfl HO3.out HB3.out)
/-- What Whole answers. -/
structure WhlR (L : List Rep) (J : Rep) : Prop where
  no : okG L = false → J = ([], [])
  bk : okG L = true → En.toB J.1 = Bk.whole (bks L)
  mb : okG L = true → Mm.toB J.2 = Mk.whole (mbs L)
theorem WhlR.unique {L : List Rep} {J J' : Rep} (h : WhlR L J) (h' : WhlR L J') : J = J' := by
  cases ok : okG L with
  | false => rw [h.no ok, h'.no ok]
  | true => exact Prod.ext (En.toB_inj ((h.bk ok).trans (h'.bk ok).symm)) (Mm.toB_inj ((h.mb ok).trans (h'.mb ok).symm))
theorem whl_is (L : List Rep) : ∃ J, WhlR L J := by
  cases ok : okG L with
  | false => exact ⟨([], []), fun _ => rfl, (fun q => by rw [ok] at q; cases q), (fun q => by rw [ok] at q; cases q)⟩
  | true =>
    obtain ⟨J, h1, h2⟩ := whole_is (okG_tame ok)
    exact ⟨J, (fun q => by rw [ok] at q; cases q), fun _ => h1, fun _ => h2⟩
theorem bulk_le {L : List Rep} (h : ∀ i, i < L.length → bulk1 (rat L i) ≤ 88) : bulk L ≤ 88 * L.length := by
  induction L with
  | nil => simp [bulk]
  | cons r L ih =>
    have h0 := h 0 (by simp)
    have e : rat (r :: L) 0 = r := rfl
    rw [e] at h0
    have := ih (fun i hi => h (i + 1) (by simpa using hi))
    simp only [bulk, List.length_cons]
    omega
theorem okG_small {L : List Rep} (h : okG L = true) : L.length ≤ 6 ∧ bulk L ≤ 528 := by
  have hT := okG_tame h
  have hb := bulk_le (L := L) (fun i hi => by have := hT.bl i hi; have := hT.ml i hi; unfold bulk1; omega)
  exact ⟨hT.n, by have := hT.n; omega⟩
theorem told_small {L M : List Rep} {f t : Int} {b : Bool} (h : ToldR L f t M b) : M.length ≤ 6 ∧ bulk M ≤ 528 := by
  cases ok : okG L with
  | false => obtain ⟨rfl, _⟩ := h.no ok; exact ⟨by simp, by simp [bulk]⟩
  | true =>
    rcases Classical.em (inG L.length f t) with q | q
    · obtain ⟨k, _⟩ := h.yes ok q
      unfold inG at q
      exact okG_small (okG_tell ok (by omega) (by omega) k)
    · obtain ⟨rfl, _⟩ := h.out ok q
      exact okG_small ok
theorem arnd_ok {L M : List Rep} (ok : okG L = true) (h : ArndR L M) : okG M = true := by
  have hT := okG_tame ok
  obtain ⟨h1, h2, h3, h4⟩ := (okG_iff L).1 ok
  have e1 := h.bk ok
  have e2 := h.mb ok
  have hl : M.length = L.length := by rw [← bks_length M, e1, Bk.around_length, bks_length]
  have hw : Bk.okBk (Bk.whole (bks L)) = true := Bk.ok_mk h3.len (fun e he => by
    obtain ⟨b, hb, q⟩ := Bk.whole_mem hT.bris he
    exact Bk.ok_all (h3.ok b hb) q) (Bk.whole_ris hT.bris)
  have hw' : Mk.okBk (Mk.whole (mbs L)) = true := by
    have hall : ∀ e ∈ Mk.whole (mbs L), Mk.okE e = true := fun e he => by
      obtain ⟨b, hb, q⟩ := Mk.whole_mem hT.mris he
      exact Mk.ok_all (h4.ok b hb) q
    exact Mk.ok_mk (Mk.ris_short _ 0 (Mk.whole_ris hT.mris) (fun e he => Mk.okE_key (hall e he))) hall (Mk.whole_ris hT.mris)
  refine (okG_iff M).2 ⟨by rw [hl]; exact h1, by rw [hl]; exact h2, ?_, ?_⟩
  · rw [e1]
    refine ⟨fun b hb => ?_, by rw [Bk.around_whole hT.bris (by rw [bks_length]; exact h1)]; exact h3.len⟩
    rw [Bk.around_eq hT.bris] at hb
    rw [(List.mem_replicate.1 hb).2]
    exact hw
  · rw [e2]
    refine ⟨fun b hb => ?_⟩
    rw [Mk.around_eq hT.mris] at hb
    rw [(List.mem_replicate.1 hb).2]
    exact hw'
theorem arnd_small {L M : List Rep} (h : ArndR L M) : M.length ≤ 6 ∧ bulk M ≤ 528 := by
  cases ok : okG L with
  | false => rw [h.no ok]; exact ⟨by simp, by simp [bulk]⟩
  | true => exact okG_small (arnd_ok ok h)
end Go.Proofs.Ytllajhieocploaa.Rp
namespace Go.Proofs.Ytllajhieocploaa.Rp
open Go.ChangeShapes Go.WideShapes Go.ChangeAt Go.RowKit
open Go.Proofs.Ytllajhieocploaa.Vv (Sl sv hidIt)
open Go.Proofs.Ytllajhieocploaa.Rc (BelowBy BelowBy.one wp_region_below calls_below calls_same)
set_option linter.unusedVariables false
/-- All alike. -/
def agR (L : List Rep) : Bool := okG L && L.all fun r => decide (r = rat L 0)
theorem ag_no {L : List Rep} (h : okG L = false) : agR L = false := by unfold agR; rw [h]; rfl
theorem ag_off {L : List Rep} {i : Nat} (hi : i < L.length) (h : ¬ rat L i = rat L 0) : agR L = false := by
  unfold agR
  cases okG L with
  | false => rfl
  | true =>
    rw [Bool.true_and]
    cases e : L.all fun r => decide (r = rat L 0) with
    | false => rfl
    | true =>
      rw [List.all_eq_true] at e
      exact absurd (of_decide_eq_true (e _ (rat_mem hi))) h
theorem ag_yes {L : List Rep} (h : okG L = true) (k : ∀ i, i < L.length → rat L i = rat L 0) : agR L = true := by
  unfold agR
  rw [h, Bool.true_and, List.all_eq_true]
  intro r hr
  obtain ⟨i, hi, rfl⟩ := List.mem_iff_getElem.1 hr
  rw [← rat_at hi]
  exact decide_eq_true (k i hi)
end Go.Proofs.Ytllajhieocploaa.Rp
