/-
  FnExactNewCluster answers true at every text and number: NewCluster of the program answers as the specification's, field by field, its answer owns its memory, behind another call too. No condition.
-/
import Derived.Test.YtgbnkkjjgodilaaRows
import Derived.WalkKit
import Derived.ProofKit
import Derived.OpenShut
import Derived.ShutString
import Derived.ChangeOld
import Derived.Below
import Derived.Lib.SmallJoins
import Derived.Test.YtgbnkkjjgodilaaBun9
import Derived.Test.YtgbnkkjjgodilaaBun8
namespace Go.Proofs.Ytgbnkkjjgodilaa.fnExactNewCluster
open Go.ChangeShapes Go.WideShapes Go.ChangeAt Go.RowKit Go.Joins
set_option linter.unusedVariables false

theorem own : ownKnob Try.prog.godebug = none := by kernel_rfl
theorem laidOut : laidOutB Try.prog = true := by kernel_rfl
open Go.Proofs.Ytgbnkkjjgodilaa.Vv (Sl sv hidIt)
open Go.Proofs.Ytgbnkkjjgodilaa.Kc (newC newL mkN newL_len newL_succ)
theorem box_in {lo hi : Nat} {w w' : World} {b : Nat} {c : Array Value} (h : Bo.Box w b c) (Y : Rp.OnlyIn lo hi w w') (hd : ¬ (lo ≤ b ∧ b < hi)) : Bo.Box w' b c :=
  ⟨Nat.lt_of_lt_of_le h.lt Y.size, fun i => by rw [World.cell?_of_block (w := w) (Y.block b h.lt hd)]; exact h.at' i, fun i => by rw [World.frozen?_of_block (w := w) (Y.block b h.lt hd)]; exact h.fr i⟩
theorem OwnK_apart {w w' : World} {lo hi lo' hi' : Nat} {c : Kc.Cw} {n k : Sl} (h : Kc.OwnK w lo hi c n k) (Y : Rp.OnlyIn lo' hi' w w') (hd : hi ≤ lo' ∨ hi' ≤ lo) : Kc.OwnK w' lo hi c n k :=
  ⟨h.on.apart Y hd, Rp.row_in h.ok Y (fun g hg => by have h1 := (World.ownsRow.lt h.ok g hg).1; have h2 := h.b g hg; omega), h.b⟩
theorem newL_cost (s : ByteArray) (m : Nat) : Ns.cost (newL s m) = 6 * m := by
  induction m with
  | zero => rfl
  | succ m ih =>
    rw [newL_succ, Ns.cost_app, ih]
    have : Ns.cost [mkN s (8 + (m : Int))] = 6 := rfl
    omega
theorem newC_of (s : ByteArray) (n : Int) : (newC s n).1 = ⟨0, [], []⟩ ∨ ∃ m : Nat, m ≤ 4 ∧ (newC s n).1 = ⟨0, newL s m, List.replicate m 0⟩ := by
  unfold newC
  by_cases h : (Nd.apexB s && Ro.inB n 1 4) = true
  · rw [if_pos h]
    refine .inr ⟨n.toNat, ?_, rfl⟩
    unfold Ro.inB at h
    simp only [Bool.and_eq_true, decide_eq_true_eq] at h
    omega
  · rw [if_neg h]
    exact .inl rfl
theorem newC_cost (s : ByteArray) (n : Int) : Kc.costK (newC s n).1 ≤ 28 := by
  rcases newC_of s n with e | ⟨m, hm, e⟩
  · rw [e]; decide
  · rw [e]
    unfold Kc.costK
    simp only [newL_cost, List.length_replicate]
    omega
theorem newC_len (s : ByteArray) (n : Int) : (newC s n).1.nodes.length ≤ 4 := by
  rcases newC_of s n with e | ⟨m, hm, e⟩
  · rw [e]; decide
  · rw [e]
    simp only [newL_len]
    exact hm
theorem newC_small {s : ByteArray} {n : Int} (hs : s.size ≤ 1048576) : Kc.SmallK (newC s n).1 := by
  rcases newC_of s n with e | ⟨m, hm, e⟩
  · rw [e]
    exact ⟨by decide, fun i hi => absurd hi (Nat.not_lt_zero _), by decide⟩
  · rw [e]
    refine ⟨by simp only [newL_len]; omega, fun i hi => ?_, by simp only [List.length_replicate]; omega⟩
    simp only [newL_len] at hi
    have e2 : Ns.nod (newL s m) i = mkN s (8 + (i : Int)) := by
      rw [Ns.nod_at (by rw [newL_len]; exact hi)]
      simp [newL]
    simp only [e2]
    exact ⟨Nat.zero_le _, Nat.zero_le _, Nat.zero_le _, Nat.zero_le _, hs⟩
set_option maxRecDepth 100000 in
set_option maxHeartbeats 16000000 in

theorem walk (s0 : ByteArray) (ws0 : s0.size ≤ maxLen) (n1 : Int) (w : World) :
    Calls Try.prog 3 #[.string s0, .int .i64 n1] w fun e w' => e = .returned (.bool true) ∧ Below w.heap.size w w' := by
  have hcost := newC_cost s0 n1
  have hlen := newC_len s0 n1
  have CS := hidIt (fun W => (Kc.spec_NewCluster s0 n1 W).mono (fun e w' h => h.out))
  have CI := hidIt (fun W => (Kc.impl_NewCluster s0 n1 W).mono (fun e w' h => h.out))
  by_cases hbig : 1048576 < s0.size
  · have hb : decide ((1048576 : Int) < (s0.size : Int)) = true := decide_eq_true (by omega)
    go_enter Try.func3, Try.ntmps3
    go_wp2_with (fail)
    go_ret
    exact ⟨rfl, Below.refl _ _⟩
  have hsm := newC_small (s := s0) (n := n1) (by omega)
  have hb : decide ((1048576 : Int) < (s0.size : Int)) = false := decide_eq_false (by omega)
  generalize Kc.newC s0 n1 = x at CS CI hcost hlen hsm
  obtain ⟨⟨no, ns, ck⟩, pv⟩ := x
  simp only at CS CI hcost hlen hsm
  have CE := hidIt (fun W n k n' k' (r : Kc.RdK W ⟨no, ns, ck⟩ n k) (r' : Kc.RdK W ⟨no, ns, ck⟩ n' k') => Kc.eq_same ⟨no, ns, ck⟩ n k n' k' W r r' hsm)
  have CM := hidIt (fun W lo hi n k (o : Kc.OwnK W lo hi ⟨no, ns, ck⟩ n k) => (Kc.mark_any lo hi ⟨no, ns, ck⟩ n k 1 W o (by decide) (by omega) (by show ns.length ≤ _; omega)).mono (fun e w' h => h.out))
  have CH := hidIt (fun W n k (r : Kc.RdK W (Kc.markK 1 ⟨no, ns, ck⟩) n k) => Kc.held_any ⟨no, ns, ck⟩ n k 1 W r (by decide) (by omega) (by show ns.length ≤ _; omega))
  have hpp : (pv != pv) = false := by cases pv <;> rfl
  generalize 1 + Kc.costK ⟨no, ns, ck⟩ = kg at CM CH
  have hk0 : ¬ (kg : Int) < 0 := by omega
  have hkk : ((kg : Int) != (kg : Int)) = false := by simp
  have HB := hidIt (Below.refl w.heap.size w)
  have hno : (Kc.markK 1 ⟨no, ns, ck⟩).now = no := rfl
  simp only [Kc.kv, Kc.kc, sv, hno] at CS CI CE CM CH
  clear hcost hlen hsm hbig hno
  go_enter Try.func3, Try.ntmps3
  go_wp2_with (fail)
  refine (CS.out _).mono ?_
  rintro en w1 ⟨⟨a0, a1, a2⟩, ⟨a3, a4, a5⟩, rfl, o, k⟩
  replace HB := hidIt (HB.out.trans (k.mono HB.out.size))
  have OA := hidIt o
  clear k o
  have kA := (Below.refl w1.heap.size w1).alloc (Nat.le_refl _) (.cells #[.int .i64 no, .slice a0 a1 a2, .slice a3 a4 a5] 25)
  have BA := hidIt (Bo.Box.new w1 #[.int .i64 no, .slice a0 a1 a2, .slice a3 a4 a5] 25)
  replace HB := hidIt (HB.out.trans (kA.mono HB.out.size))
  replace OA := hidIt (OA.out.kept kA)
  clear kA
  have hs1 : (w1.alloc (.cells #[.int .i64 no, .slice a0 a1 a2, .slice a3 a4 a5] 25)).heap.size = w1.heap.size + 1 := by simp
  go_wp2_with (fail)
  refine (CI.out _).mono ?_
  rintro en w2 ⟨⟨b0, b1, b2⟩, ⟨b3, b4, b5⟩, rfl, o, k⟩
  replace HB := hidIt (HB.out.trans (k.mono HB.out.size))
  replace BA := hidIt (BA.out.kept k)
  replace OA := hidIt (OA.out.kept k)
  have OB := hidIt o
  clear k o
  have kA := (Below.refl w2.heap.size w2).alloc (Nat.le_refl _) (.cells #[.int .i64 no, .slice b0 b1 b2, .slice b3 b4 b5] 25)
  have BB := hidIt (Bo.Box.new w2 #[.int .i64 no, .slice b0 b1 b2, .slice b3 b4 b5] 25)
  replace HB := hidIt (HB.out.trans (kA.mono HB.out.size))
  replace BA := hidIt (BA.out.kept kA)
  replace OA := hidIt (OA.out.kept kA)
  replace OB := hidIt (OB.out.kept kA)
  clear kA
  have hs2 := OB.out.on.lo_le
  rw [hs1] at OB hs2
  have p0 := BB.out.c 0 (v := .int .i64 no) rfl
  have p1 := BB.out.c 1 (v := .slice b0 b1 b2) rfl
  have p2 := BB.out.c 2 (v := .slice b3 b4 b5) rfl
  have q0 := BA.out.c 0 (v := .int .i64 no) rfl
  have q1 := BA.out.c 1 (v := .slice a0 a1 a2) rfl
  have q2 := BA.out.c 2 (v := .slice a3 a4 a5) rfl
  go_wp2_with (fail)
  refine (CE.out _ _ _ _ _ OB.out.rd OA.out.rd).mono ?_
  rintro en w3 ⟨rfl, k⟩
  clear p0 p1 p2
  clear q0 q1 q2
  replace HB := hidIt (HB.out.trans (k.mono HB.out.size))
  replace BA := hidIt (BA.out.kept k)
  replace BB := hidIt (BB.out.kept k)
  replace OA := hidIt (OA.out.kept k)
  replace OB := hidIt (OB.out.kept k)
  clear k
  have p0 := BB.out.c 0 (v := .int .i64 no) rfl
  have p1 := BB.out.c 1 (v := .slice b0 b1 b2) rfl
  have p2 := BB.out.c 2 (v := .slice b3 b4 b5) rfl
  go_wp2_with (fail)
  refine (CM.out _ _ _ _ _ OB.out).mono ?_
  rintro en w4 ⟨rfl, oM, yM⟩
  have hs3 : w1.heap.size + 1 ≤ w3.heap.size := by have := OB.out.on.lo_le; omega
  replace HB := hidIt (HB.out.trans (yM.below (by have := OA.out.on.lo_le; omega) HB.out.size))
  replace BA := hidIt (box_in BA.out yM (by omega))
  replace BB := hidIt (box_in BB.out yM (by omega))
  replace OA := hidIt (OwnK_apart OA.out yM (.inl (by omega)))
  replace OB := hidIt oM
  clear oM yM hs3
  clear p0 p1 p2
  have p0 := BB.out.c 0 (v := .int .i64 no) rfl
  have p1 := BB.out.c 1 (v := .slice b0 b1 b2) rfl
  have p2 := BB.out.c 2 (v := .slice b3 b4 b5) rfl
  go_wp2_with (fail)
  refine (CH.out _ _ _ OB.out.rd).mono ?_
  rintro en w5 ⟨rfl, k⟩
  clear p0 p1 p2
  replace HB := hidIt (HB.out.trans (k.mono HB.out.size))
  replace BA := hidIt (BA.out.kept k)
  replace BB := hidIt (BB.out.kept k)
  replace OA := hidIt (OA.out.kept k)
  replace OB := hidIt (OB.out.kept k)
  clear k
  go_wp2_with (fail)
  refine (CI.out _).mono ?_
  rintro en w6 ⟨⟨h0, h1, h2⟩, ⟨h3, h4, h5⟩, rfl, o, k⟩
  replace HB := hidIt (HB.out.trans (k.mono HB.out.size))
  replace BA := hidIt (BA.out.kept k)
  replace BB := hidIt (BB.out.kept k)
  replace OA := hidIt (OA.out.kept k)
  replace OB := hidIt (OB.out.kept k)
  have OH := hidIt o
  clear k o
  have kA := (Below.refl w6.heap.size w6).alloc (Nat.le_refl _) (.cells #[.int .i64 no, .slice h0 h1 h2, .slice h3 h4 h5] 25)
  have BH := hidIt (Bo.Box.new w6 #[.int .i64 no, .slice h0 h1 h2, .slice h3 h4 h5] 25)
  replace HB := hidIt (HB.out.trans (kA.mono HB.out.size))
  replace BA := hidIt (BA.out.kept kA)
  replace BB := hidIt (BB.out.kept kA)
  replace OA := hidIt (OA.out.kept kA)
  replace OB := hidIt (OB.out.kept kA)
  replace OH := hidIt (OH.out.kept kA)
  clear kA
  have p0 := BH.out.c 0 (v := .int .i64 no) rfl
  have p1 := BH.out.c 1 (v := .slice h0 h1 h2) rfl
  have p2 := BH.out.c 2 (v := .slice h3 h4 h5) rfl
  have q0 := BA.out.c 0 (v := .int .i64 no) rfl
  have q1 := BA.out.c 1 (v := .slice a0 a1 a2) rfl
  have q2 := BA.out.c 2 (v := .slice a3 a4 a5) rfl
  go_wp2_with (fail)
  refine (CE.out _ _ _ _ _ OH.out.rd OA.out.rd).mono ?_
  rintro en w7 ⟨rfl, k⟩
  clear p0 p1 p2
  clear q0 q1 q2
  replace HB := hidIt (HB.out.trans (k.mono HB.out.size))
  replace BA := hidIt (BA.out.kept k)
  replace BB := hidIt (BB.out.kept k)
  replace BH := hidIt (BH.out.kept k)
  replace OA := hidIt (OA.out.kept k)
  replace OB := hidIt (OB.out.kept k)
  replace OH := hidIt (OH.out.kept k)
  clear k
  have p0 := BB.out.c 0 (v := .int .i64 no) rfl
  have p1 := BB.out.c 1 (v := .slice b0 b1 b2) rfl
  have p2 := BB.out.c 2 (v := .slice b3 b4 b5) rfl
  go_wp2_with (fail)
  refine (CH.out _ _ _ OB.out.rd).mono ?_
  rintro en w8 ⟨rfl, k⟩
  clear p0 p1 p2
  replace HB := hidIt (HB.out.trans (k.mono HB.out.size))
  replace BA := hidIt (BA.out.kept k)
  replace BB := hidIt (BB.out.kept k)
  replace BH := hidIt (BH.out.kept k)
  replace OA := hidIt (OA.out.kept k)
  replace OB := hidIt (OB.out.kept k)
  replace OH := hidIt (OH.out.kept k)
  clear k
  go_wp2_with (fail)
  go_ret
  exact ⟨rfl, HB.out⟩

set_option maxRecDepth 100000 in
theorem lifted (os : Os) (started : os.Started) (H : Type) (enc : TypeId × Value → H) :
    ReturnsInHanded {} Try.checked os 3 .any (Rows.fnExactNewClusterSpec.pre6 enc Try.prog Try.f3 Rows.fnExactNewClusterRow.domain false) (Rows.fnExactNewClusterSpec.post enc Try.prog Try.f3 false true false false) := by
  refine returnsInHanded_of_change (C := Try.checked) own started (by kernel_rfl) Try.func3
    (ChangeSpec.witness6 (enc := enc) (C := Try.checked) false ⟨#[], #[.string ByteArray.empty, .int .i64 0], []⟩ 8 (by kernel_rfl) (by kernel_rfl) (by kernel_rfl) (by kernel_rfl)) ?_
  intro W base args ds gs before hval0 hW hcnd _
  have hval : ∀ (j : Nat) t v, Try.f3.params[j]? = some t → args[j]? = some v → Value.okWide Try.prog W .any base t v := hval0
  have hW' := hW
  obtain ⟨p, q, hA0, hV, rfl, hfz, hnd⟩ := hW
  have hA : DataW.TrodAll enc Try.prog W 0 (fun _ => true) true Try.f3.params.toList args.toList ds p := hA0
  rw [Try.params3] at hA hval
  obtain ⟨v0, vs0, d0, ds0, p0, q0, hargs, rfl, rfl, h0, r0⟩ := trodAll_cons hA
  obtain ⟨v1, vs1, d1, ds1, p1, q1, rfl, rfl, rfl, h1, r1⟩ := trodAll_cons r0
  obtain ⟨rfl, rfl, rfl⟩ := trodAll_nil r1
  obtain rfl : args = #[v0, v1] := by cases args; simp_all
  obtain ⟨rfl, rfl⟩ := trodVars_none hV
  have k0 := h0
  have lt0 : ∀ x ∈ p0, x.block < W.heap.size := by obtain ⟨m, hm⟩ := k0; exact DataW.trod_lt m _ _ _ hm
  have k1 := h1
  have lt1 : ∀ x ∈ p1, x.block < W.heap.size := by obtain ⟨m, hm⟩ := k1; exact DataW.trod_lt m _ _ _ hm
  obtain ⟨s0, rfl, rfl, rfl, ws0⟩ := Go.ChangeMaps.open_string Try.underlying9 (hval 0 9 v0 rfl rfl) h0
  obtain ⟨n1, rfl, rfl, rfl, wn1⟩ := open_int Try.underlying2 (hval 1 2 v1 rfl rfl) h1
  clear hA0 hval0
  refine (walk s0 ws0 n1 W).mono fun e W' ⟨he, bel⟩ => ?_
  subst he
  exact ⟨_, rfl, _, _, _, [], _, [], hW', trodAll_mk1 (shut_bool Try.underlying4 _), (trodAll_cons_mk (Below.trod laidOut (by kernel_rfl) (of_decide_eq_true (by kernel_rfl)) k0 bel lt0) (trodAll_cons_mk (Below.trod laidOut (by kernel_rfl) (of_decide_eq_true (by kernel_rfl)) k1 bel lt1) trodAll_mk0)), rfl, bel.frame _, fun h => by cases h⟩

theorem over : Rows.fnExactNewClusterRow.holds Try.pinned (OpenSpec.ofChange Rows.fnExactNewClusterSpec) :=
  OpenClaim.holds_of_wide 3 Try.f3 rfl rfl rfl rfl rfl rfl rfl ⟨rfl, rfl, rfl, rfl, rfl⟩ rfl rfl rfl rfl rfl (by kernel_rfl) Try.func3 (by kernel_rfl)
    (of_decide_eq_true (by kernel_rfl)) (by unfold Func.isWrapper; first | (rw [if_pos (by decide +kernel)]; kernel_rfl) | (rw [if_neg (by decide +kernel)]; exact ⟨rfl, rfl⟩))
    (fun os started H enc _ => lifted os started H enc)
end Go.Proofs.Ytgbnkkjjgodilaa.fnExactNewCluster
namespace Go.Proofs.Ytgbnkkjjgodilaa
theorem fnExactNewCluster_holds : Rows.FnExactNewClusterSaid := fnExactNewCluster.over
#print axioms fnExactNewCluster_holds
end Go.Proofs.Ytgbnkkjjgodilaa
