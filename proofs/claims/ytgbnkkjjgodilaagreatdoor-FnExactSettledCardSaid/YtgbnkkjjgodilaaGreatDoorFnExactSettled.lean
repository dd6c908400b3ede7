/-
  FnExactSettled answers true at every Cluster and leaves it as it was: Settled of the program answers as the specification's, field by field, writes into no argument, keeps nothing of one, and its answer owns its memory, behind another call too. No condition but that the library's table of powers of ten is laid as its text says (the card ties it).
-/
import Derived.Test.YtgbnkkjjgodilaaGreatDoorRows
import Derived.WalkKit
import Derived.ProofKit
import Derived.OpenShut
import Derived.ShutString
import Derived.ChangeOld
import Derived.Below
import Derived.Lib.SmallJoins
import Derived.Test.YtgbnkkjjgodilaaGreatDoorDoorMet
import Derived.Test.YtgbnkkjjgodilaaGreatDoorTie
import Derived.Test.YtgbnkkjjgodilaaGreatDoorCards
import Derived.LaidMore
import Derived.Stop.Joined
import Derived.SevenTiedAt
import Derived.Test.YtgbnkkjjgodilaaGreatDoorBun19
import Derived.Test.YtgbnkkjjgodilaaGreatDoorBun20
import Derived.Test.YtgbnkkjjgodilaaGreatDoorBun26
namespace Go.Proofs.YtgbnkkjjgodilaaGreatDoor.fnExactSettled
open Go.ChangeShapes Go.WideShapes Go.ChangeAt Go.RowKit Go.Joins
set_option linter.unusedVariables false

theorem own : ownKnob Tryz.prog.godebug = none := by kernel_rfl
theorem laidOut : laidOutB Tryz.prog = true := by kernel_rfl
open Go.Proofs.YtgbnkkjjgodilaaGreatDoor.Vv (Sl sv hidIt)
open Go.Proofs.YtgbnkkjjgodilaaGreatDoor.Rg (upd waits wp_region_inv op_at)
structure RQ (X : Kc.Cw) (vx vn : Value) (w0 : World) (L : Nat → Bool) (u27 u28 u29 u30 u31 : Value) (W : World) : Prop where
  low : Below w0.heap.size w0 W
  k0 : L 0 = true → u27 = vx
  k1 : L 1 = true → u28 = vn
  k2 : L 2 = true → ∃ n k, u29 = Kc.kv X n k ∧ Kc.RdK W X n k
  k3 : L 3 = true → u30 = .bool true
  k4 : L 4 = true → u31 = .bool false
def KQ (X : Kc.Cw) (vx vn : Value) (w0 : World) (y0 y1 y2 y3 y4 y5 y6 y7 y8 y9 y10 y11 y12 y13 y14 y15 y16 y17 y18 y19 y20 y21 y22 y23 y24 y25 y26 y32 y33 y34 y35 y36 y37 y38 y39 y40 y41 y42 y43 y44 y45 y46 y47 y48 y49 y50 y51 y52 y53 y54 y55 y56 y57 y58 y59 y60 y61 y62 y63 y64 y65 y66 y67 y68 : Value) (L : Nat → Bool) (a : Act) (W : World) : Prop := ∃ u27 u28 u29 u30 u31 : Value, a = ⟨(y0 :: y1 :: y2 :: y3 :: y4 :: y5 :: y6 :: y7 :: y8 :: y9 :: y10 :: y11 :: y12 :: y13 :: y14 :: y15 :: y16 :: y17 :: y18 :: y19 :: y20 :: y21 :: y22 :: y23 :: y24 :: y25 :: y26 :: u27 :: u28 :: u29 :: u30 :: u31 :: y32 :: y33 :: y34 :: y35 :: y36 :: y37 :: y38 :: y39 :: y40 :: y41 :: y42 :: y43 :: y44 :: y45 :: y46 :: y47 :: y48 :: y49 :: y50 :: y51 :: y52 :: y53 :: y54 :: y55 :: y56 :: y57 :: y58 :: y59 :: y60 :: y61 :: y62 :: y63 :: y64 :: y65 :: y66 :: y67 :: y68 :: []).toArray, []⟩ ∧ RQ X vx vn w0 L u27 u28 u29 u30 u31 W
theorem RQ.kept {X : Kc.Cw} {vx vn : Value} {w0 : World} {L : Nat → Bool} {u27 u28 u29 u30 u31 : Value} {W W' : World} (R : RQ X vx vn w0 L u27 u28 u29 u30 u31 W) (k : Below W.heap.size W W') : RQ X vx vn w0 L u27 u28 u29 u30 u31 W' :=
  ⟨R.low.trans (k.mono R.low.size), R.k0, R.k1, (fun q => by obtain ⟨n, m, h1, h2⟩ := R.k2 q; exact ⟨n, m, h1, h2.kept k⟩), R.k3, R.k4⟩
theorem stl_small {c d : Kc.Cw} (h : Kc.StlR c d) (hs : Kc.SmallK c) : Kc.SmallK d ∧ Kc.costK d ≤ 10000 ∧ d.nodes.length ≤ 4 := by
  cases ok : Kc.okK c with
  | false =>
    rw [h.no ok]
    exact ⟨⟨by decide, fun i hi => absurd hi (Nat.not_lt_zero _), by decide⟩, by decide, by decide⟩
  | true =>
    obtain ⟨M, hA, e⟩ := h.yes ok
    obtain ⟨_, h1, h4, hck, hE, hG⟩ := Kc.okK_out ok
    have hM := Rp.arnd_ok hG hA
    have hml := Kc.arnd_len hG hA
    rw [Kc.reps_length] at hml
    have hT := Rp.tame_of (Rp.okG_all hM).2.1 (Rp.okG_all hM).2.2.1
    have key : ∀ i, i < c.nodes.length → (Ns.nod (Kc.setL c.nodes M) i).book.length ≤ 80 ∧ (Ns.nod (Kc.setL c.nodes M) i).mem.length ≤ 8 ∧ (Ns.nod (Kc.setL c.nodes M) i).buc.length ≤ 20 ∧ (Ns.nod (Kc.setL c.nodes M) i).log.length ≤ 300 ∧ (Ns.nod (Kc.setL c.nodes M) i).apex.size ≤ 1048576 := fun i hi => by
      rw [Kc.nod_setL hi]
      have ho : Nd.okN (Ns.nod c.nodes i) = true := by
        have := hE i hi
        unfold Kc.eachB at this
        rw [Bool.and_eq_true] at this
        exact this.1
      obtain ⟨_, _, _, hb, hl⟩ := Kc.okN_parts ho
      exact ⟨hT.bl i (by rw [hml]; exact hi), hT.ml i (by rw [hml]; exact hi), hb, hl, (hs.nd i hi).ap⟩
    have hc : ∀ (L : List Nd.Nw), L.length ≤ 4 → (∀ i, i < L.length → (Ns.nod L i).book.length ≤ 80 ∧ (Ns.nod L i).mem.length ≤ 8 ∧ (Ns.nod L i).buc.length ≤ 20 ∧ (Ns.nod L i).log.length ≤ 300 ∧ (Ns.nod L i).apex.size ≤ 1048576) → Ns.cost L ≤ 2000 * L.length := fun L => by
      induction L with
      | nil => intro _ _; simp [Ns.cost]
      | cons r L ih =>
        intro hl hk
        have h0 := hk 0 (by simp)
        have hr : Ns.nod (r :: L) 0 = r := rfl
        rw [hr] at h0
        have := ih (by simp at hl; omega) (fun i hi => hk (i + 1) (by simp; exact hi))
        simp only [Ns.cost, Ns.costN, List.length_cons]
        omega
    rw [e]
    refine ⟨⟨by simp only [Kc.setL_len]; omega, fun i hi => ?_, by simp only; omega⟩, ?_, by simp only [Kc.setL_len]; exact h4⟩
    · simp only [Kc.setL_len] at hi
      obtain ⟨a, b, c', d', e'⟩ := key i hi
      exact ⟨Nat.le_trans a (by decide), Nat.le_trans b (by decide), Nat.le_trans c' (by decide), Nat.le_trans d' (by decide), e'⟩
    · have := hc (Kc.setL c.nodes M) (by rw [Kc.setL_len]; exact h4) (fun i hi => key i (by rw [Kc.setL_len] at hi; exact hi))
      rw [Kc.setL_len] at this
      unfold Kc.costK
      simp only
      omega
set_option maxRecDepth 100000 in
set_option maxHeartbeats 32000000 in

theorem walk (x0 : Kc.Cw) (xn0 xk0 : Vv.Sl) (w : World) (w0 : Kc.In w x0 xn0 xk0) (htab : Sg.Tab w) :
    Calls Tryz.prog 4 #[Kc.kv x0 xn0 xk0] w fun e w' => e = .returned (.bool true) ∧ Below w.heap.size w w' := by
  have HR := hidIt w0.rd
  have hsN := w0.short
  clear w0
  obtain ⟨no, ns, ck⟩ := x0
  obtain ⟨n0, n1, n2⟩ := xn0
  obtain ⟨k0, k1, k2⟩ := xk0
  have CZ := hidIt (fun W (r : Kc.RdK W ⟨no, ns, ck⟩ (n0, n1, n2) (k0, k1, k2)) => Kc.sz_sum ⟨no, ns, ck⟩ (n0, n1, n2) (k0, k1, k2) 1048576 W r hsN (by decide) (by decide))
  have CT := hidIt (fun W (r : Kc.RdK W ⟨no, ns, ck⟩ (n0, n1, n2) (k0, k1, k2)) hm => Kc.to_any ⟨no, ns, ck⟩ (n0, n1, n2) (k0, k1, k2) W r hm)
  have CS := hidIt (fun W n k lo hh (o : Kc.OwnK W lo hh ⟨no, ns, ck⟩ n k) => Kc.spec_Settled ⟨no, ns, ck⟩ n k lo hh W o hsN)
  have CI := hidIt (fun W n k lo hh (o : Kc.OwnK W lo hh ⟨no, ns, ck⟩ n k) t => Kc.impl_Settled ⟨no, ns, ck⟩ n k lo hh W o hsN t)
  have CE := hidIt (fun W n k n' k' (r : Kc.RdK W ⟨no, ns, ck⟩ n k) (r' : Kc.RdK W ⟨no, ns, ck⟩ n' k') hl => Kc.eq_same ⟨no, ns, ck⟩ n k n' k' W r r' hl)
  have HT := hidIt htab
  simp only [Kc.kv, Kc.kc, sv] at CZ CT CS CI CE ⊢
  clear hsN htab
  have BX := hidIt (Bo.Box.new w #[.int .i64 no, .slice n0 n1 n2, .slice k0 k1 k2] 25)
  have HB := hidIt ((Below.refl w.heap.size w).alloc (Nat.le_refl _) (.cells #[.int .i64 no, .slice n0 n1 n2, .slice k0 k1 k2] 25))
  have c0 := BX.out.c 0 (v := .int .i64 no) rfl
  have c1 := BX.out.c 1 (v := .slice n0 n1 n2) rfl
  have c2 := BX.out.c 2 (v := .slice k0 k1 k2) rfl
  go_enter Tryz.func4, Tryz.ntmps4
  go_wp2_with (fail)
  refine (CZ.out _ (HR.out.kept HB.out)).mono ?_
  rintro en w1 ⟨q, rfl, hq, k⟩
  replace HB := hidIt (HB.out.trans (k.mono HB.out.size))
  replace BX := hidIt (BX.out.kept k)
  have HQ := hidIt hq
  clear k hq c0 c1 c2 CZ
  by_cases hneg : q < 0
  · go_wp2_with (fail)
    go_ret
    exact ⟨rfl, HB.out⟩
  have HSM := hidIt (HQ.out.sm (by omega))
  have hcost := HQ.out.cost (by omega)
  have hlen : ns.length ≤ 1048576 := HSM.out.n
  have CMX := hidIt (fun W lo hi n k (o : Kc.OwnK W lo hi ⟨no, ns, ck⟩ n k) => (Kc.mark_any lo hi ⟨no, ns, ck⟩ n k 1 W o (by decide) (by omega) hlen).mono (fun e w' h => h.out))
  generalize 1 + Kc.costK ⟨no, ns, ck⟩ = kx at CMX
  have hkx : ¬ (kx : Int) < 0 := by omega
  simp only [Kc.kv, Kc.kc, sv] at CMX
  clear HQ hcost hlen
  have c0 := BX.out.c 0 (v := .int .i64 no) rfl
  have c1 := BX.out.c 1 (v := .slice n0 n1 n2) rfl
  have c2 := BX.out.c 2 (v := .slice k0 k1 k2) rfl
  go_wp2_with (fail)
  refine (CT.out _ (HR.out.kept HB.out) HSM.out).mono ?_
  intro en w2 hz
  obtain ⟨⟨t0, t1, t2⟩, ⟨t3, t4, t5⟩, rfl, o, k⟩ := hz.out
  clear c0 c1 c2
  replace HB := hidIt (HB.out.trans (k.mono HB.out.size))
  replace BX := hidIt (BX.out.kept k)
  have Ot := hidIt o
  clear hz o k
  simp only [Kc.kv, Kc.kc, sv]
  have hbx2 : w.heap.size < w2.heap.size := BX.out.lt
  go_wp2_with (fail)
  refine (CS.out _ _ _ _ _ Ot.out).mono ?_
  intro en w3 hz
  obtain ⟨da, hda, ⟨a0, a1, a2⟩, ⟨a3, a4, a5⟩, rfl, o, k⟩ := hz.out
  obtain ⟨dn, ds, dk⟩ := da
  have HDD := hidIt hda
  have HSD := hidIt (stl_small hda HSM.out)
  clear hda
  replace HB := hidIt (HB.out.trans (k.mono HB.out.size))
  replace BX := hidIt (BX.out.kept k)
  have Oa := hidIt o
  clear hz o k
  simp only [Kc.kv, Kc.kc, sv]
  have CED := hidIt (fun W n k n' k' (r : Kc.RdK W ⟨dn, ds, dk⟩ n k) (r' : Kc.RdK W ⟨dn, ds, dk⟩ n' k') => Kc.eq_same ⟨dn, ds, dk⟩ n k n' k' W r r' HSD.out.1)
  have hcd := HSD.out.2.1
  have hld : ds.length ≤ 4 := HSD.out.2.2
  have CMD := hidIt (fun W lo hi n k (o : Kc.OwnK W lo hi ⟨dn, ds, dk⟩ n k) => (Kc.mark_any lo hi ⟨dn, ds, dk⟩ n k 1 W o (by decide) (by omega) (by show ds.length ≤ _; omega)).mono (fun e w' h => h.out))
  have CHD := hidIt (fun W n k (r : Kc.RdK W (Kc.markK 1 ⟨dn, ds, dk⟩) n k) => Kc.held_any ⟨dn, ds, dk⟩ n k 1 W r (by decide) (by omega) (by show ds.length ≤ _; omega))
  have hno : (Kc.markK 1 ⟨dn, ds, dk⟩).now = dn := rfl
  generalize 1 + Kc.costK ⟨dn, ds, dk⟩ = kg at CMD CHD
  have hk0 : ¬ (kg : Int) < 0 := by omega
  have hkk : ((kg : Int) != (kg : Int)) = false := by simp
  simp only [Kc.kv, Kc.kc, sv, hno] at CED CMD CHD
  clear hcd hld hno Ot
  have kA := (Below.refl w3.heap.size w3).alloc (Nat.le_refl _) (.cells #[.int .i64 dn, .slice a0 a1 a2, .slice a3 a4 a5] 30)
  have BA := hidIt (Bo.Box.new w3 #[.int .i64 dn, .slice a0 a1 a2, .slice a3 a4 a5] 30)
  replace HB := hidIt (HB.out.trans (kA.mono HB.out.size))
  replace BX := hidIt (BX.out.kept kA)
  replace Oa := hidIt (Oa.out.kept kA)
  clear kA
  have hoa := Oa.out.on.lo_le
  have hs3 : w3.heap.size < (w3.alloc (.cells #[.int .i64 dn, .slice a0 a1 a2, .slice a3 a4 a5] 30)).heap.size := by simp
  have c0 := BX.out.c 0 (v := .int .i64 no) rfl
  have c1 := BX.out.c 1 (v := .slice n0 n1 n2) rfl
  have c2 := BX.out.c 2 (v := .slice k0 k1 k2) rfl
  go_wp2_with (fail)
  refine (CT.out _ (HR.out.kept HB.out) HSM.out).mono ?_
  intro en w4 hz
  obtain ⟨⟨x0, x1, x2⟩, ⟨x3, x4, x5⟩, rfl, o, k⟩ := hz.out
  clear c0 c1 c2
  replace HB := hidIt (HB.out.trans (k.mono HB.out.size))
  replace BX := hidIt (BX.out.kept k)
  replace BA := hidIt (BA.out.kept k)
  replace Oa := hidIt (Oa.out.kept k)
  have Ox := hidIt o
  clear hz o k
  simp only [Kc.kv, Kc.kc, sv]
  have kA := (Below.refl w4.heap.size w4).alloc (Nat.le_refl _) (.cells #[.int .i64 no, .slice x0 x1 x2, .slice x3 x4 x5] 30)
  have BY := hidIt (Bo.Box.new w4 #[.int .i64 no, .slice x0 x1 x2, .slice x3 x4 x5] 30)
  replace HB := hidIt (HB.out.trans (kA.mono HB.out.size))
  replace BX := hidIt (BX.out.kept kA)
  replace BA := hidIt (BA.out.kept kA)
  replace Oa := hidIt (Oa.out.kept kA)
  replace Ox := hidIt (Ox.out.kept kA)
  clear kA
  have hox := Ox.out.on.lo_le
  have hs4 : w4.heap.size < (w4.alloc (.cells #[.int .i64 no, .slice x0 x1 x2, .slice x3 x4 x5] 30)).heap.size := by simp
  have p0 := BY.out.c 0 (v := .int .i64 no) rfl
  have p1 := BY.out.c 1 (v := .slice x0 x1 x2) rfl
  have p2 := BY.out.c 2 (v := .slice x3 x4 x5) rfl
  go_wp2_with (fail)
  refine (CI.out _ _ _ _ _ Ox.out (HT.out.kept HB.out)).mono ?_
  intro en w5 hz
  obtain ⟨dg, hdg, ⟨g0, g1, g2⟩, ⟨g3, g4, g5⟩, rfl, o, k⟩ := hz.out
  obtain rfl := hdg.unique HDD.out
  clear hdg
  replace HB := hidIt (HB.out.trans (k.mono HB.out.size))
  replace BX := hidIt (BX.out.kept k)
  replace BA := hidIt (BA.out.kept k)
  replace BY := hidIt (BY.out.kept k)
  replace Oa := hidIt (Oa.out.kept k)
  replace Ox := hidIt (Ox.out.kept k)
  have Og := hidIt o
  clear hz o k
  simp only [Kc.kv, Kc.kc, sv]
  clear p0 p1 p2
  have kA := (Below.refl w5.heap.size w5).alloc (Nat.le_refl _) (.cells #[.int .i64 dn, .slice g0 g1 g2, .slice g3 g4 g5] 30)
  have BG := hidIt (Bo.Box.new w5 #[.int .i64 dn, .slice g0 g1 g2, .slice g3 g4 g5] 30)
  replace HB := hidIt (HB.out.trans (kA.mono HB.out.size))
  replace BX := hidIt (BX.out.kept kA)
  replace BA := hidIt (BA.out.kept kA)
  replace BY := hidIt (BY.out.kept kA)
  replace Oa := hidIt (Oa.out.kept kA)
  replace Ox := hidIt (Ox.out.kept kA)
  replace Og := hidIt (Og.out.kept kA)
  clear kA
  have hog := Og.out.on.lo_le
  have hs5 : w5.heap.size < (w5.alloc (.cells #[.int .i64 dn, .slice g0 g1 g2, .slice g3 g4 g5] 30)).heap.size := by simp
  have p0 := BG.out.c 0 (v := .int .i64 dn) rfl
  have p1 := BG.out.c 1 (v := .slice g0 g1 g2) rfl
  have p2 := BG.out.c 2 (v := .slice g3 g4 g5) rfl
  have q0 := BA.out.c 0 (v := .int .i64 dn) rfl
  have q1 := BA.out.c 1 (v := .slice a0 a1 a2) rfl
  have q2 := BA.out.c 2 (v := .slice a3 a4 a5) rfl
  go_wp2_with (fail)
  refine (CED.out _ _ _ _ _ Og.out.rd Oa.out.rd).mono ?_
  rintro en w6 ⟨rfl, k⟩
  clear p0 p1 p2
  clear q0 q1 q2
  replace HB := hidIt (HB.out.trans (k.mono HB.out.size))
  replace BX := hidIt (BX.out.kept k)
  replace BA := hidIt (BA.out.kept k)
  replace BY := hidIt (BY.out.kept k)
  replace BG := hidIt (BG.out.kept k)
  replace Oa := hidIt (Oa.out.kept k)
  replace Ox := hidIt (Ox.out.kept k)
  replace Og := hidIt (Og.out.kept k)
  clear k
  have BXw := hidIt (fun W (kb : Below w6.drew.heap.size w6.drew W) => BX.out.drew.kept kb)
  have BYw := hidIt (fun W (kb : Below w6.drew.heap.size w6.drew W) => BY.out.drew.kept kb)
  have HRw := hidIt (fun W (kb : Below w6.drew.heap.size w6.drew W) => HR.out.kept (HB.out.drew.trans (kb.mono HB.out.drew.size)))
  have HXw := hidIt (fun W (kb : Below w6.drew.heap.size w6.drew W) => Kc.RdK.kept (w := w6.drew) (Ox.out.rd.kept (Below.refl _ w6).drew) kb)
  go_wp2_with (fail)
  refine wp_region_inv (by kernel_rfl) (by kernel_rfl) (KQ ⟨no, ns, ck⟩ (.agg #[.int .i64 no, .slice x0 x1 x2, .slice x3 x4 x5]) (.agg #[.int .i64 no, .slice n0 n1 n2, .slice k0 k1 k2]) w6.drew _ _ _ _ _ _ _ _ _ _ _ _ _ _ _ _ _ _ _ _ _ _ _ _ _ _ _ _ _ _ _ _ _ _ _ _ _ _ _ _ _ _ _ _ _ _ _ _ _ _ _ _ _ _ _ _ _ _ _ _ _ _ _ _) ⟨_, _, _, _, _, ⟨rfl, ⟨Below.refl _ _, (fun q => by cases q), (fun q => by cases q), (fun q => by cases q), (fun q => by cases q), (fun q => by cases q)⟩⟩⟩ ?_ ?_
  case refine_1 =>
    intro Lb a' W j hj hI hL hD
    have hcases : j = 0 ∨ j = 1 ∨ j = 2 ∨ j = 3 ∨ j = 4 := by simp at hj; omega
    clear hj
    obtain ⟨u27, u28, u29, u30, u31, rfl, R⟩ := hI
    have kb := R.low
    rcases hcases with rfl | rfl | rfl | rfl | rfl
    · skip
      have bx := BYw.out W kb
      have d0 := bx.c 0 (v := .int .i64 no) rfl
      have d1 := bx.c 1 (v := .slice x0 x1 x2) rfl
      have d2 := bx.c 2 (v := .slice x3 x4 x5) rfl
      refine op_at rfl (fun K hK => ?_)
      go_simp
      refine hK _ _ ?_
      exact ⟨_, _, _, _, _, rfl, ⟨R.low, (fun _ => rfl), R.k1, R.k2, R.k3, R.k4⟩⟩
    · skip
      have bx := BXw.out W kb
      have d0 := bx.c 0 (v := .int .i64 no) rfl
      have d1 := bx.c 1 (v := .slice n0 n1 n2) rfl
      have d2 := bx.c 2 (v := .slice k0 k1 k2) rfl
      refine op_at rfl (fun K hK => ?_)
      go_simp
      refine hK _ _ ?_
      exact ⟨_, _, _, _, _, rfl, ⟨R.low, R.k0, (fun _ => rfl), R.k2, R.k3, R.k4⟩⟩
    · skip
      have e1 := R.k1 (hD 1 (by kernel_rfl))
      subst e1
      refine op_at rfl (fun K hK => ?_)
      go_simp
      refine (CT.out W (HRw.out W kb) HSM.out).mono ?_
      intro en W1 hz
      obtain ⟨f1, f2, rfl, hO, k1⟩ := hz.out
      have R := R.kept k1
      clear kb
      go_simp
      refine hK _ _ ?_
      exact ⟨_, _, _, _, _, rfl, ⟨R.low, R.k0, R.k1, (fun _ => ⟨f1, f2, rfl, hO.rd⟩), R.k3, R.k4⟩⟩
    · skip
      have e0 := R.k0 (hD 0 (by kernel_rfl))
      subst e0
      obtain ⟨f1, f2, e2, r2⟩ := R.k2 (hD 2 (by kernel_rfl))
      subst e2
      refine op_at rfl (fun K hK => ?_)
      obtain ⟨f10, f11, f12⟩ := f1
      obtain ⟨f20, f21, f22⟩ := f2
      simp only [Kc.kv, Kc.kc, sv]
      go_simp
      refine (CE.out W _ _ _ _ (HXw.out W kb) r2 HSM.out).mono ?_
      rintro en W1 ⟨rfl, k1⟩
      have R := R.kept k1
      clear kb
      go_simp
      refine hK _ _ ?_
      exact ⟨_, _, _, _, _, rfl, ⟨R.low, R.k0, R.k1, R.k2, (fun _ => rfl), R.k4⟩⟩
    · skip
      have e3 := R.k3 (hD 3 (by kernel_rfl))
      subst e3
      refine op_at rfl (fun K hK => ?_)
      go_simp
      refine hK _ _ ?_
      exact ⟨_, _, _, _, _, rfl, ⟨R.low, R.k0, R.k1, R.k2, R.k3, (fun _ => rfl)⟩⟩
  case refine_2 =>
    intro Lb a' w7 hI hall
    obtain ⟨u27, u28, u29, u30, u31, rfl, R⟩ := hI
    have e4 := R.k4 (hall 4)
    have kd : Below w6.heap.size w6 w7 := (Below.refl w6.heap.size w6).drew.trans R.low
    subst e4
    clear R hall BXw BYw HRw HXw
    replace HB := hidIt (HB.out.trans (kd.mono HB.out.size))
    replace BX := hidIt (BX.out.kept kd)
    replace BA := hidIt (BA.out.kept kd)
    replace BY := hidIt (BY.out.kept kd)
    replace BG := hidIt (BG.out.kept kd)
    replace Oa := hidIt (Oa.out.kept kd)
    replace Ox := hidIt (Ox.out.kept kd)
    replace Og := hidIt (Og.out.kept kd)
    clear kd
    have p0 := BY.out.c 0 (v := .int .i64 no) rfl
    have p1 := BY.out.c 1 (v := .slice x0 x1 x2) rfl
    have p2 := BY.out.c 2 (v := .slice x3 x4 x5) rfl
    go_wp2_with (fail)
    refine (CMX.out _ _ _ _ _ Ox.out).mono ?_
    rintro en w8 ⟨rfl, oM, yM⟩
    clear p0 p1 p2

    replace HB := hidIt (HB.out.trans (yM.below (by omega) HB.out.size))
    replace BX := hidIt (Kc.box_in BX.out yM (by omega))
    replace BA := hidIt (Kc.box_in BA.out yM (by omega))
    replace BY := hidIt (Kc.box_in BY.out yM (by omega))
    replace BG := hidIt (Kc.box_in BG.out yM (by omega))
    replace Oa := hidIt (Kc.OwnK.apart Oa.out yM (by omega))
    replace Og := hidIt (Kc.OwnK.apart Og.out yM (by omega))
    replace Ox := hidIt oM
    clear oM yM
    have p0 := BG.out.c 0 (v := .int .i64 dn) rfl
    have p1 := BG.out.c 1 (v := .slice g0 g1 g2) rfl
    have p2 := BG.out.c 2 (v := .slice g3 g4 g5) rfl
    have q0 := BA.out.c 0 (v := .int .i64 dn) rfl
    have q1 := BA.out.c 1 (v := .slice a0 a1 a2) rfl
    have q2 := BA.out.c 2 (v := .slice a3 a4 a5) rfl
    go_wp2_with (fail)
    refine (CED.out _ _ _ _ _ Og.out.rd Oa.out.rd).mono ?_
    rintro en w9 ⟨rfl, k⟩
    clear p0 p1 p2
    clear q0 q1 q2
    replace HB := hidIt (HB.out.trans (k.mono HB.out.size))
    replace BX := hidIt (BX.out.kept k)
    replace BA := hidIt (BA.out.kept k)
    replace BY := hidIt (BY.out.kept k)
    replace BG := hidIt (BG.out.kept k)
    replace Oa := hidIt (Oa.out.kept k)
    replace Ox := hidIt (Ox.out.kept k)
    replace Og := hidIt (Og.out.kept k)
    clear k
    clear Ox
    have p0 := BG.out.c 0 (v := .int .i64 dn) rfl
    have p1 := BG.out.c 1 (v := .slice g0 g1 g2) rfl
    have p2 := BG.out.c 2 (v := .slice g3 g4 g5) rfl
    go_wp2_with (fail)
    refine (CMD.out _ _ _ _ _ Og.out).mono ?_
    rintro en w10 ⟨rfl, oM, yM⟩
    clear p0 p1 p2

    replace HB := hidIt (HB.out.trans (yM.below (by omega) HB.out.size))
    replace BX := hidIt (Kc.box_in BX.out yM (by omega))
    replace BA := hidIt (Kc.box_in BA.out yM (by omega))
    replace BY := hidIt (Kc.box_in BY.out yM (by omega))
    replace BG := hidIt (Kc.box_in BG.out yM (by omega))
    replace Oa := hidIt (Kc.OwnK.apart Oa.out yM (by omega))
    replace Og := hidIt oM
    clear oM yM
    have p0 := BG.out.c 0 (v := .int .i64 dn) rfl
    have p1 := BG.out.c 1 (v := .slice g0 g1 g2) rfl
    have p2 := BG.out.c 2 (v := .slice g3 g4 g5) rfl
    go_wp2_with (fail)
    refine (CHD.out _ _ _ Og.out.rd).mono ?_
    rintro en w11 ⟨rfl, k⟩
    clear p0 p1 p2
    replace HB := hidIt (HB.out.trans (k.mono HB.out.size))
    replace BX := hidIt (BX.out.kept k)
    replace BA := hidIt (BA.out.kept k)
    replace BY := hidIt (BY.out.kept k)
    replace BG := hidIt (BG.out.kept k)
    replace Oa := hidIt (Oa.out.kept k)
    replace Og := hidIt (Og.out.kept k)
    clear k
    have c0 := BX.out.c 0 (v := .int .i64 no) rfl
    have c1 := BX.out.c 1 (v := .slice n0 n1 n2) rfl
    have c2 := BX.out.c 2 (v := .slice k0 k1 k2) rfl
    go_wp2_with (fail)
    refine (CT.out _ (HR.out.kept HB.out) HSM.out).mono ?_
    intro en w12 hz
    obtain ⟨⟨s0, s1, s2⟩, ⟨s3, s4, s5⟩, rfl, o, k⟩ := hz.out
    clear c0 c1 c2
    replace HB := hidIt (HB.out.trans (k.mono HB.out.size))
    replace BX := hidIt (BX.out.kept k)
    replace BA := hidIt (BA.out.kept k)
    replace BY := hidIt (BY.out.kept k)
    replace BG := hidIt (BG.out.kept k)
    replace Oa := hidIt (Oa.out.kept k)
    replace Og := hidIt (Og.out.kept k)
    have Os := hidIt o
    clear hz o k
    simp only [Kc.kv, Kc.kc, sv]
    go_wp2_with (fail)
    refine (CI.out _ _ _ _ _ Os.out (HT.out.kept HB.out)).mono ?_
    intro en w13 hz
    obtain ⟨dh, hdh, ⟨h0, h1, h2⟩, ⟨h3, h4, h5⟩, rfl, o, k⟩ := hz.out
    obtain rfl := hdh.unique HDD.out
    clear hdh
    replace HB := hidIt (HB.out.trans (k.mono HB.out.size))
    replace BX := hidIt (BX.out.kept k)
    replace BA := hidIt (BA.out.kept k)
    replace BY := hidIt (BY.out.kept k)
    replace BG := hidIt (BG.out.kept k)
    replace Oa := hidIt (Oa.out.kept k)
    replace Og := hidIt (Og.out.kept k)
    have Oh := hidIt o
    clear hz o k
    simp only [Kc.kv, Kc.kc, sv]
    have kA := (Below.refl w13.heap.size w13).alloc (Nat.le_refl _) (.cells #[.int .i64 dn, .slice h0 h1 h2, .slice h3 h4 h5] 30)
    have BH := hidIt (Bo.Box.new w13 #[.int .i64 dn, .slice h0 h1 h2, .slice h3 h4 h5] 30)
    replace HB := hidIt (HB.out.trans (kA.mono HB.out.size))
    replace BX := hidIt (BX.out.kept kA)
    replace BA := hidIt (BA.out.kept kA)
    replace BY := hidIt (BY.out.kept kA)
    replace BG := hidIt (BG.out.kept kA)
    replace Oa := hidIt (Oa.out.kept kA)
    replace Og := hidIt (Og.out.kept kA)
    replace Oh := hidIt (Oh.out.kept kA)
    clear kA
    have p0 := BH.out.c 0 (v := .int .i64 dn) rfl
    have p1 := BH.out.c 1 (v := .slice h0 h1 h2) rfl
    have p2 := BH.out.c 2 (v := .slice h3 h4 h5) rfl
    have q0 := BA.out.c 0 (v := .int .i64 dn) rfl
    have q1 := BA.out.c 1 (v := .slice a0 a1 a2) rfl
    have q2 := BA.out.c 2 (v := .slice a3 a4 a5) rfl
    go_wp2_with (fail)
    refine (CED.out _ _ _ _ _ Oh.out.rd Oa.out.rd).mono ?_
    rintro en w14 ⟨rfl, k⟩
    clear p0 p1 p2
    clear q0 q1 q2
    replace HB := hidIt (HB.out.trans (k.mono HB.out.size))
    replace BX := hidIt (BX.out.kept k)
    replace BA := hidIt (BA.out.kept k)
    replace BY := hidIt (BY.out.kept k)
    replace BG := hidIt (BG.out.kept k)
    replace BH := hidIt (BH.out.kept k)
    replace Oa := hidIt (Oa.out.kept k)
    replace Og := hidIt (Og.out.kept k)
    replace Oh := hidIt (Oh.out.kept k)
    clear k
    have p0 := BG.out.c 0 (v := .int .i64 dn) rfl
    have p1 := BG.out.c 1 (v := .slice g0 g1 g2) rfl
    have p2 := BG.out.c 2 (v := .slice g3 g4 g5) rfl
    go_wp2_with (fail)
    refine (CHD.out _ _ _ Og.out.rd).mono ?_
    rintro en w15 ⟨rfl, k⟩
    clear p0 p1 p2
    replace HB := hidIt (HB.out.trans (k.mono HB.out.size))
    replace BX := hidIt (BX.out.kept k)
    replace BA := hidIt (BA.out.kept k)
    replace BY := hidIt (BY.out.kept k)
    replace BG := hidIt (BG.out.kept k)
    replace BH := hidIt (BH.out.kept k)
    replace Oa := hidIt (Oa.out.kept k)
    replace Og := hidIt (Og.out.kept k)
    replace Oh := hidIt (Oh.out.kept k)
    clear k
    go_wp2_with (fail)
    go_ret
    exact ⟨rfl, HB.out⟩

theorem door_met (os : Os) (args : Array Value) : laidMetH Tryz.prog Rows.fnExactSettledRow.laid ((World.doorLaid Tryz.prog 24 os).forCall (fun _ _ => 0) ⟨#[], args, []⟩).memory :=
  laidMetH_of_parts3 (fuel := 8) (laidMet_of_run' 8 (by kernel_rfl) (by kernel_rfl)) (by kernel_rfl) (by kernel_rfl)
set_option maxRecDepth 100000 in
theorem lifted (os : Os) (started : os.Started) (H : Type) (enc : TypeId × Value → H) :
    ReturnsInHanded {} Tryz.checked os 4 .any (fun w args => (Rows.fnExactSettledSpec.pre enc Tryz.prog Tryz.f4 [] false w args ∧ laidMetH Tryz.prog Rows.fnExactSettledRow.laid w) ∧ sizedMet enc Tryz.prog Tryz.f4 (OpenSpec.ofChange Rows.fnExactSettledSpec) false w args) (Rows.fnExactSettledSpec.post enc Tryz.prog Tryz.f4 false true false false) := by
  refine returnsInHanded_of_change_and (C := Tryz.checked) (X := fun w _ => laidMetH Tryz.prog Rows.fnExactSettledRow.laid w) (fun _ _ _ hh h => h.of_heap hh) own started (by kernel_rfl) Tryz.func4
    (ChangeSpec.witness_shaped (enc := enc) (C := Tryz.checked) (os := os) (X := fun w _ => laidMetH Tryz.prog Rows.fnExactSettledRow.laid w) false (World.doorLaid Tryz.prog 24 os) #[.agg #[.int .i64 0, .slice none 0 0, .slice none 0 0]] 8 rfl (World.shaped_of_RefB (by kernel_rfl) (by kernel_rfl)) (by kernel_rfl) (by kernel_rfl) (by kernel_rfl) (door_met os _)) ?_
  intro W base args ds gs before hval0 hW _ _ hL _
  have hval : ∀ (j : Nat) t v, Tryz.f4.params[j]? = some t → args[j]? = some v → Value.okWide Tryz.prog W .any base t v := hval0
  have hW' := hW
  obtain ⟨p, q, hA0, hV, rfl, hfz, hnd⟩ := hW
  have hA : DataW.TrodAll enc Tryz.prog W 0 (fun _ => true) true Tryz.f4.params.toList args.toList ds p := hA0
  rw [Tryz.params4] at hA hval
  obtain ⟨v0, vs0, d0, ds0, p0, q0, hargs, rfl, rfl, h0, r0⟩ := trodAll_cons hA
  obtain ⟨rfl, rfl, rfl⟩ := trodAll_nil r0
  obtain rfl : args = #[v0] := by cases args; simp_all
  obtain ⟨rfl, rfl⟩ := trodVars_none hV
  have k0 := h0
  have lt0 : ∀ x ∈ p0, x.block < W.heap.size := by obtain ⟨m, hm⟩ := k0; exact DataW.trod_lt m _ _ _ hm
  obtain ⟨x0, xn0, xk0, rfl, w0⟩ := Kc.open_cluster (hval 0 25 v0 rfl rfl) h0
  clear hA0 hval0
  refine (walk x0 xn0 xk0 W w0 (Sg.tab_of_laid hL)).mono fun e W' ⟨he, bel⟩ => ?_
  subst he
  exact ⟨_, rfl, _, _, _, [], _, [], hW', trodAll_mk1 (shut_bool Tryz.underlying4 _), (trodAll_cons_mk (Below.trod laidOut (by kernel_rfl) (of_decide_eq_true (by kernel_rfl)) k0 bel lt0) trodAll_mk0), rfl, bel.frame _, fun h => by cases h⟩

theorem over : Rows.fnExactSettledRow.holds Tryz.pinned (OpenSpec.ofChange Rows.fnExactSettledSpec) :=
  OpenClaim.holds_of_wide 4 Tryz.f4 rfl rfl rfl rfl rfl rfl rfl ⟨rfl, rfl, rfl, rfl, rfl⟩ rfl rfl rfl rfl rfl (by kernel_rfl) Tryz.func4 (by kernel_rfl)
    (of_decide_eq_true (by kernel_rfl)) (by unfold Func.isWrapper; first | (rw [if_pos (by decide +kernel)]; kernel_rfl) | (rw [if_neg (by decide +kernel)]; exact ⟨rfl, rfl⟩))
    (fun os started H enc _ => lifted os started H enc)
theorem card : Rows.FnExactSettledCardSaid :=
  Claim7.holds_tied_plain_at .later [] [.data, .data, .data] true (true, "91bddde6460751275fcec305add94913de915fb269229a61010e63c5c662b0f8") true
    over (fun _ h => by cases h) (by kernel_rfl) (fun _ h => by cases h) fnExactSettled_row_tie rfl ⟨rfl, rfl⟩ (by kernel_rfl) rfl
    (fun f fn hf hfn => by
      obtain rfl : f = 4 := Option.some.inj ((show Tryz.prog.funcNamed "loop.example/g00307/laws.FnExactSettled" = some 4 by kernel_rfl).symm.trans hf) |>.symm
      obtain rfl : fn = Tryz.f4 := (Option.some.inj (Tryz.func4.symm.trans hfn)).symm
      exact ⟨by kernel_rfl, fun j t ht => by
        rw [Tryz.params4] at ht
        have hm : t ∈ [25] := by simpa using Array.mem_of_getElem? ht
        have hall : ([25].all fun u => !Tryz.prog.wantsStandIn u) = true := by kernel_rfl
        exact (show Tryz.prog.wantsStandIn t = false by simpa using List.all_eq_true.1 hall t hm)⟩)
    (by kernel_rfl)
end Go.Proofs.YtgbnkkjjgodilaaGreatDoor.fnExactSettled
namespace Go.Proofs.YtgbnkkjjgodilaaGreatDoor
theorem fnExactSettled_holds : Rows.FnExactSettledCardSaid := fnExactSettled.card
#print axioms fnExactSettled_holds
end Go.Proofs.YtgbnkkjjgodilaaGreatDoor
