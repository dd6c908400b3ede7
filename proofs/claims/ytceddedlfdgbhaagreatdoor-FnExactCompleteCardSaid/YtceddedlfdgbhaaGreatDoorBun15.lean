/-
  szCluster, eqCluster, toCluster of the laws. (Written by wip/mkKc.py.)
  The program's replicaOk.
  NodeOk of the program. (Written by wip/mkNod.py.)
  A list of Replicas as it lies in memory: 2 cells each; a row of the call's own; one that came in. (Written by wip/mkrow.py.)
  A list of Replicas as it lies in memory: two slices each, a book and Members; a list of the call's own, no two of whose slices share memory.
-/
import Derived.Test.YtceddedlfdgbhaaGreatDoorBun14
import Derived.Test.YtceddedlfdgbhaaGreatDoorBun7
import Derived.Test.YtceddedlfdgbhaaGreatDoorBun12
import Derived.Test.YtceddedlfdgbhaaGreatDoorBun5
import Derived.Test.YtceddedlfdgbhaaGreatDoorBun9
import Derived.Test.YtceddedlfdgbhaaGreatDoorBun13
import Derived.Test.YtceddedlfdgbhaaGreatDoorBun11
import Derived.Test.YtceddedlfdgbhaaGreatDoorBun2
import Derived.Test.YtceddedlfdgbhaaGreatDoorMem
import Derived.Test.YtceddedlfdgbhaaGreatDoorProg
import Derived.Laws.OwnMore
import Derived.Deep.OwnRows
import Derived.Deep.Strs
import Derived.OwnWalk
import Derived.OpenShut
import Derived.Laws.AppendOwn
import Derived.Lib.SmallJoins
import Derived.Test.YtceddedlfdgbhaaGreatDoorBun10
import Derived.Test.YtceddedlfdgbhaaGreatDoorBun3
import Derived.Test.YtceddedlfdgbhaaGreatDoorMem2M
namespace Go.Proofs.YtceddedlfdgbhaaGreatDoor.Kc
open Go.ChangeShapes Go.WideShapes Go.ChangeAt Go.RowKit
open Go.Proofs.YtceddedlfdgbhaaGreatDoor.Vv (Sl sv hidIt)
open Go.Proofs.YtceddedlfdgbhaaGreatDoor.Nd (Nw RdN OwnN ShortN SmallN)
set_option linter.unusedVariables false
open Go.Proofs.YtceddedlfdgbhaaGreatDoor.Nd (on)
/-- What szCluster says. -/
structure Le6 (c : Cw) (q l : Int) : Prop where
  le : q ≤ l
  sm : 0 ≤ q → SmallK c
set_option maxRecDepth 100000 in
set_option maxHeartbeats 8000000 in
theorem sz_any (c : Cw) (n k : Sl) (l : Int) (w : World) (h : RdK w c n k) (hs : ShortK c) (h0 : 0 ≤ l) (h1 : l ≤ 1048576) :
    Calls Tryz.prog 4 #[kv c n k, .int .i64 l] w fun en w' => ∃ q : Int, en = .returned (.int .i64 q) ∧ Le6 c q l ∧ Below w.heap.size w w' := by
  obtain ⟨nw, ns, ck⟩ := c
  obtain ⟨n0, n1, n2⟩ := n
  obtain ⟨k0, k1, k2⟩ := k
  obtain ⟨z1, rN, cN, z2, rK, cK⟩ := h
  simp only at z1 rN cN z2 rK cK
  have C1 := hidIt (fun W (r : Ns.Rd W n0 ns) => Ns.szS_any n0 n2 ns l W r cN hs h0 h1)
  have C2 := hidIt (fun (l' : Int) (h : 0 ≤ l') (h' : l' ≤ 1048576) W => Iv.szInt64S_any k0 k2 ck.length l' W cK h h')
  have MK : Hid (∀ q : Int, q ≤ l → (0 ≤ q → ns.length ≤ 1048576 ∧ (∀ i, i < ns.length → SmallN (Ns.nod ns i)) ∧ ck.length ≤ 1048576) → Le6 ⟨nw, ns, ck⟩ q l) := hidIt (fun q a c => ⟨a, fun z => ⟨(c z).1, (c z).2.1, (c z).2.2⟩⟩)
  have RN := hidIt rN
  subst z1 z2
  clear rN rK hs
  generalize hm1 : ns.length = m1 at C1 MK ⊢
  generalize hm2 : ck.length = m2 at C2 MK ⊢
  have HM1 := hidIt hm1
  clear hm1 hm2
  have BX := hidIt (Bo.Box.new w #[.int .i64 nw, .slice n0 m1 n2, .slice k0 m2 k2] 25)
  have HB := hidIt ((Below.refl w.heap.size w).alloc (Nat.le_refl _) (.cells #[.int .i64 nw, .slice n0 m1 n2, .slice k0 m2 k2] 25))
  have d1 := BX.out.c 1 (v := .slice n0 m1 n2) rfl
  simp only [kv, kc, sv]
  go_enter Tryz.func4, Tryz.ntmps4
  go_wp2_with (fail)
  refine (C1.out _ (RN.out.kept HB.out)).mono ?_
  rintro en w1 ⟨q, rfl, hq, k1⟩
  have HQ := hidIt hq
  have q1 := hq.le
  have HB1 := hidIt (on HB.out k1)
  have BX1 := hidIt (BX.out.kept k1)
  clear k1 hq d1
  by_cases hneg : q < 0
  · go_wp2_with (fail)
    go_ret
    have z := MK.out (-1) (by omega) (fun h => by omega)
    first | exact ⟨-1, rfl, z, HB1.out⟩ | exact ⟨z, HB1.out⟩
  have d2 := BX1.out.c 2 (v := .slice k0 m2 k2) rfl
  go_wp2_with (fail)
  refine (C2.out q (by omega) (by omega) _).mono ?_
  rintro en w2 ⟨r, rfl, r1, r2, r3, ew⟩
  have ew2 := ew.symm
  subst ew2
  have HR3 := hidIt r3
  clear ew r3
  by_cases hneg2 : r < 0
  · go_wp2_with (fail)
    go_ret
    have z := MK.out (-1) (by omega) (fun h => by omega)
    first | exact ⟨-1, rfl, z, HB1.out⟩ | exact ⟨z, HB1.out⟩
  · go_wp2_with (fail)
    go_ret
    have s := HQ.out.sm (by omega)
    have z := MK.out r (by omega) (fun h => ⟨by rw [← HM1.out]; exact s.1, by rw [← HM1.out]; exact s.2, HR3.out h⟩)
    first | exact ⟨r, rfl, z, HB1.out⟩ | exact ⟨z, HB1.out⟩
set_option maxRecDepth 100000 in
set_option maxHeartbeats 8000000 in
theorem eq_same (c : Cw) (n k n' k' : Sl) (w : World) (h : RdK w c n k) (h' : RdK w c n' k') (hs : SmallK c) :
    Calls Tryz.prog 8 #[kv c n k, kv c n' k'] w fun en w' => en = .returned (.bool true) ∧ Below w.heap.size w w' := by
  obtain ⟨nw, ns, ck⟩ := c
  obtain ⟨n0, n1, n2⟩ := n
  obtain ⟨k0, k1, k2⟩ := k
  obtain ⟨x0, x1, x2⟩ := n'
  obtain ⟨y0, y1, y2⟩ := k'
  obtain ⟨z1, rN, cN, z2, rK, cK⟩ := h
  obtain ⟨z3, rN', _, z4, rK', _⟩ := h'
  obtain ⟨s1, s2, s3⟩ := hs
  simp only at z1 rN cN z2 rK cK z3 rN' z4 rK' s1 s2 s3
  have C1 := hidIt (fun W (r : Ns.Rd W n0 ns) (r' : Ns.Rd W x0 ns) => Ns.eqS_same n0 x0 n2 x2 ns W r r' cN (fun i hi => by have := (s2 i hi).g; omega))
  have C2 := hidIt (fun W (r : Iv.Rd W k0 ck) (r' : Iv.Rd W y0 ck) => Iv.eqInt64S_any k0 y0 k2 y2 ck W r r' (by omega))
  have RN := hidIt rN
  have RN' := hidIt rN'
  have RK := hidIt rK
  have RK' := hidIt rK'
  subst z1 z2 z3 z4
  clear rN rN' rK rK' s1 s2 s3 cN cK
  generalize ns.length = m1 at C1 ⊢
  generalize ck.length = m2 at C2 ⊢
  have hq : (nw != nw) = false := by simp
  have BA := hidIt ((Bo.Box.new w #[.int .i64 nw, .slice n0 m1 n2, .slice k0 m2 k2] 30).alloc (.cells #[.int .i64 nw, .slice x0 m1 x2, .slice y0 m2 y2] 30))
  have BB : Hid (Bo.Box ((w.alloc (.cells #[.int .i64 nw, .slice n0 m1 n2, .slice k0 m2 k2] 30)).alloc (.cells #[.int .i64 nw, .slice x0 m1 x2, .slice y0 m2 y2] 30)) (w.heap.size + 1) #[.int .i64 nw, .slice x0 m1 x2, .slice y0 m2 y2]) := hidIt (Bo.Box.newAt (by simp))
  have HB : Hid (Below w.heap.size w ((w.alloc (.cells #[.int .i64 nw, .slice n0 m1 n2, .slice k0 m2 k2] 30)).alloc (.cells #[.int .i64 nw, .slice x0 m1 x2, .slice y0 m2 y2] 30))) := hidIt (((Below.refl w.heap.size w).alloc (Nat.le_refl _) _).alloc (by simp) _)
  have a0 := BA.out.c 0 (v := .int .i64 nw) rfl
  have b0 := BB.out.c 0 (v := .int .i64 nw) rfl
  have a1 := BA.out.c 1 (v := .slice n0 m1 n2) rfl
  have b1 := BB.out.c 1 (v := .slice x0 m1 x2) rfl
  simp only [kv, kc, sv]
  go_enter Tryz.func8, Tryz.ntmps8
  go_wp2_with (fail)
  refine (C1.out _ (RN.out.kept HB.out) (RN'.out.kept HB.out)).mono ?_
  rintro en w1 ⟨rfl, k1⟩
  have HB1 := hidIt (on HB.out k1)
  have BA1 := hidIt (BA.out.kept k1)
  have BB1 := hidIt (BB.out.kept k1)
  clear k1 a0 b0 a1 b1 HB BA BB
  have a2 := BA1.out.c 2 (v := .slice k0 m2 k2) rfl
  have b2 := BB1.out.c 2 (v := .slice y0 m2 y2) rfl
  go_wp2_with (fail)
  refine (C2.out _ (RK.out.kept HB1.out) (RK'.out.kept HB1.out)).mono ?_
  rintro en w2 ⟨rfl, k1⟩
  have HB2 := hidIt (on HB1.out k1)
  clear k1
  go_wp2_with (fail)
  go_ret
  exact ⟨rfl, HB2.out⟩
set_option maxRecDepth 100000 in
set_option maxHeartbeats 16000000 in
theorem to_any (c : Cw) (n k : Sl) (w : World) (h : RdK w c n k) (hs : SmallK c) :
    Calls Tryz.prog 6 #[kv c n k] w fun en w' => KluP w c en w' := by
  obtain ⟨nw, ns, ck⟩ := c
  obtain ⟨n0, n1, n2⟩ := n
  obtain ⟨k0, k1, k2⟩ := k
  obtain ⟨z1, rN, cN, z2, rK, cK⟩ := h
  simp only at z1 rN cN z2 rK cK
  obtain ⟨s1, s2, s3⟩ := hs
  simp only at s1 s2 s3
  have C1 := hidIt (fun W (r : Ns.Rd W n0 ns) => Ns.toS_any n0 n2 ns W r s1 s2)
  have C2 := hidIt (fun W (r : Iv.Rd W k0 ck) => Iv.toInt64S_any k0 k2 ck W r s3)
  have RN := hidIt rN
  have RK := hidIt rK
  subst z1 z2
  clear rN rK s1 s2 s3 cN cK
  generalize hm1 : ns.length = m1 at C1 ⊢
  generalize hm2 : ck.length = m2 at C2 ⊢
  have H1 := hidIt hm1
  have H2 := hidIt hm2
  clear hm1 hm2
  have BA : Hid (Bo.Box (((w.alloc (.cells #[.int .i64 nw, .slice n0 m1 n2, .slice k0 m2 k2] 25)).alloc (.cells #[.int .i64 0, .slice none 0 0, .slice none 0 0] 30)).alloc (.cells #[.int .i64 nw, .slice none 0 0, .slice none 0 0] 30)) w.heap.size #[.int .i64 nw, .slice n0 m1 n2, .slice k0 m2 k2]) := hidIt (((Bo.Box.new w _ _).alloc _).alloc _)
  have BR : Hid (Bo.Box (((w.alloc (.cells #[.int .i64 nw, .slice n0 m1 n2, .slice k0 m2 k2] 25)).alloc (.cells #[.int .i64 0, .slice none 0 0, .slice none 0 0] 30)).alloc (.cells #[.int .i64 nw, .slice none 0 0, .slice none 0 0] 30)) (w.heap.size + 1) #[.int .i64 0, .slice none 0 0, .slice none 0 0]) := hidIt ((Bo.Box.newAt (by simp)).alloc _)
  have BO : Hid (Bo.Box (((w.alloc (.cells #[.int .i64 nw, .slice n0 m1 n2, .slice k0 m2 k2] 25)).alloc (.cells #[.int .i64 0, .slice none 0 0, .slice none 0 0] 30)).alloc (.cells #[.int .i64 nw, .slice none 0 0, .slice none 0 0] 30)) (w.heap.size + 1 + 1) #[.int .i64 nw, .slice none 0 0, .slice none 0 0]) := hidIt (Bo.Box.newAt (by simp))
  have HB : Hid (Below w.heap.size w (((w.alloc (.cells #[.int .i64 nw, .slice n0 m1 n2, .slice k0 m2 k2] 25)).alloc (.cells #[.int .i64 0, .slice none 0 0, .slice none 0 0] 30)).alloc (.cells #[.int .i64 nw, .slice none 0 0, .slice none 0 0] 30))) := hidIt ((((Below.refl w.heap.size w).alloc (Nat.le_refl _) _).alloc (by simp) _).alloc (by simp; omega) _)
  have hw3 : (((w.alloc (.cells #[.int .i64 nw, .slice n0 m1 n2, .slice k0 m2 k2] 25)).alloc (.cells #[.int .i64 0, .slice none 0 0, .slice none 0 0] 30)).alloc (.cells #[.int .i64 nw, .slice none 0 0, .slice none 0 0] 30)).heap.size = w.heap.size + 1 + 1 + 1 := by simp
  have hs3 : w.heap.size + 1 + 1 + 1 ≤ (((w.alloc (.cells #[.int .i64 nw, .slice n0 m1 n2, .slice k0 m2 k2] 25)).alloc (.cells #[.int .i64 0, .slice none 0 0, .slice none 0 0] 30)).alloc (.cells #[.int .i64 nw, .slice none 0 0, .slice none 0 0] 30)).heap.size := by omega
  have ne20 : w.heap.size + 1 + 1 ≠ w.heap.size := by omega
  have ne21 : w.heap.size + 1 + 1 ≠ w.heap.size + 1 := by omega
  have hle : w.heap.size ≤ w.heap.size + 1 + 1 := by omega
  have hle1 : w.heap.size ≤ w.heap.size + 1 := by omega
  have a0 : ((w.alloc (.cells #[.int .i64 nw, .slice n0 m1 n2, .slice k0 m2 k2] 25)).alloc (.cells #[.int .i64 0, .slice none 0 0, .slice none 0 0] 30)).cell? ⟨w.heap.size, 0, none⟩ = some (.int .i64 nw) := ((Bo.Box.new w #[.int .i64 nw, .slice n0 m1 n2, .slice k0 m2 k2] 25).alloc _).c 0 rfl
  have a1 := BA.out.c 1 (v := .slice n0 m1 n2) rfl
  simp only [kv, kc, sv]
  go_enter Tryz.func6, Tryz.ntmps6
  go_wp2_with (fail)
  clear a0 hw3
  have BA1 := BA
  have BR1 := BR
  have BO1 := BO
  have HB1 := HB
  clear BA BR BO HB
  generalize (((w.alloc (.cells #[.int .i64 nw, .slice n0 m1 n2, .slice k0 m2 k2] 25)).alloc (.cells #[.int .i64 0, .slice none 0 0, .slice none 0 0] 30)).alloc (.cells #[.int .i64 nw, .slice none 0 0, .slice none 0 0] 30)) = W0 at BA1 BR1 BO1 HB1 a1 hs3 ⊢
  refine (C1.out _ (RN.out.kept HB1.out)).mono ?_
  intro en w1 hz
  obtain ⟨v1, rfl, oN, k1⟩ := hz.out
  obtain ⟨x0, x2, ex, _⟩ := oN.form
  rw [H1.out] at ex
  subst ex
  have HB2 := hidIt (on HB1.out k1)
  have BA2 := hidIt (BA1.out.kept k1)
  have BR2 := hidIt (BR1.out.kept k1)
  have BO2 := hidIt (BO1.out.kept k1)
  have hs4 : w.heap.size + 1 + 1 + 1 ≤ w1.heap.size := Nat.le_trans hs3 k1.size
  have ON := hidIt (oN.mono hs3 (Nat.le_refl _) (Nat.le_refl _))
  clear hz k1 oN a1 C1 HB1 BA1 BR1 BO1
  have o1 := BO2.out.c 1 (v := .slice none 0 0) rfl
  have p1 := BO2.out.fr 1
  have Y1 := hidIt ((Only.refl (w.heap.size + 1 + 1) w1).setCell 1 (.slice x0 m1 x2))
  have ON2 := hidIt (ON.out.apart (Rp.OnlyIn.of_only (lo := w.heap.size + 1 + 1) (hi := w.heap.size + 1 + 1 + 1) Y1.out (.inr ⟨Nat.le_refl _, Nat.lt_succ_self _⟩)) (.inr (Nat.le_refl _)))
  have BA3 := hidIt (BA2.out.other (v := .slice x0 m1 x2) (i := 1) ne20)
  have BR3 := hidIt (BR2.out.other (v := .slice x0 m1 x2) (i := 1) ne21)
  have BO3 := hidIt (BO2.out.put (c' := #[.int .i64 nw, .slice x0 m1 x2, .slice none 0 0]) 1 (.slice x0 m1 x2) (by simp) rfl)
  have HB3 := hidIt (HB2.out.setCell (p := ⟨w.heap.size + 1 + 1, 1, none⟩) hle (.slice x0 m1 x2))
  have hsz : (w1.setCell ⟨w.heap.size + 1 + 1, 1, none⟩ (.slice x0 m1 x2)).heap.size = w1.heap.size := by simp [World.setCell]
  have a2 := BA3.out.c 2 (v := .slice k0 m2 k2) rfl
  clear HB2 BA2 BR2 BO2 ON Y1
  go_wp2_with (fail)
  generalize w1.setCell ⟨w.heap.size + 1 + 1, 1, none⟩ (.slice x0 m1 x2) = W1 at BA3 BR3 BO3 HB3 ON2 a2 hsz ⊢
  clear o1 p1
  refine (C2.out _ (RK.out.kept HB3.out)).mono ?_
  rintro en w2 ⟨v2, rfl, oK, k1⟩
  obtain ⟨y0, y2, ey, _⟩ := oK.form
  rw [H2.out] at ey
  subst ey
  have HB4 := hidIt (on HB3.out k1)
  have BR4 := hidIt (BR3.out.kept k1)
  have BO4 := hidIt (BO3.out.kept k1)
  have hs5 : w.heap.size + 1 + 1 + 1 ≤ W1.heap.size := by omega
  have ON4 := hidIt ((ON2.out.kept k1).mono (Nat.le_refl _) (by have := k1.size; omega) (Nat.le_refl _))
  have OK4 := hidIt (oK.mono hs5)
  clear k1 oK a2 C2 BA3 HB3 BR3 BO3 ON2 hsz
  have o2 := BO4.out.c 2 (v := .slice none 0 0) rfl
  have p2 := BO4.out.fr 2
  have CV : Hid (Bo.Box (w2.setCell ⟨w.heap.size + 1 + 1, 2, none⟩ (.slice y0 m2 y2)) (w.heap.size + 1 + 1) #[.int .i64 nw, .slice x0 m1 x2, .slice y0 m2 y2]) := hidIt (BO4.out.put (c' := #[.int .i64 nw, .slice x0 m1 x2, .slice y0 m2 y2]) 2 (.slice y0 m2 y2) (by simp) rfl)
  have BR5 := hidIt (BR4.out.other (v := .slice y0 m2 y2) (i := 2) ne21)
  have HB5 := hidIt (HB4.out.setCell (p := ⟨w.heap.size + 1 + 1, 2, none⟩) hle (.slice y0 m2 y2))
  have Y2 := hidIt ((Only.refl (w.heap.size + 1 + 1) w2).setCell 2 (.slice y0 m2 y2))
  have ON5 := hidIt (ON4.out.apart (Rp.OnlyIn.of_only (lo := w.heap.size + 1 + 1) (hi := w.heap.size + 1 + 1 + 1) Y2.out (.inr ⟨Nat.le_refl _, Nat.lt_succ_self _⟩)) (.inr (Nat.le_refl _)))
  have OK5 := hidIt (OK4.out.only Y2.out (.inl (Nat.lt_succ_self _)))
  have e0 := CV.out.c 0 (v := .int .i64 nw) rfl
  have e1 := CV.out.c 1 (v := .slice x0 m1 x2) rfl
  have e2 := CV.out.c 2 (v := .slice y0 m2 y2) rfl
  have r0 := BR5.out.c 0 (v := .int .i64 0) rfl
  have r1 := BR5.out.c 1 (v := .slice none 0 0) rfl
  have r2 := BR5.out.c 2 (v := .slice none 0 0) rfl
  have f0 := BR5.out.fr 0
  have f1 := BR5.out.fr 1
  have f2 := BR5.out.fr 2
  have hsz2 : (w2.setCell ⟨w.heap.size + 1 + 1, 2, none⟩ (.slice y0 m2 y2)).heap.size = w2.heap.size := by simp [World.setCell]
  have BR6 := hidIt (((BR5.out.put (c' := #[.int .i64 nw, .slice none 0 0, .slice none 0 0]) 0 (.int .i64 nw) (by simp) rfl).put (c' := #[.int .i64 nw, .slice x0 m1 x2, .slice none 0 0]) 1 (.slice x0 m1 x2) (by simp) rfl).put (c' := #[.int .i64 nw, .slice x0 m1 x2, .slice y0 m2 y2]) 2 (.slice y0 m2 y2) (by simp) rfl)
  have HB6 := hidIt (((HB5.out.setCell (p := ⟨w.heap.size + 1, 0, none⟩) hle1 (.int .i64 nw)).setCell (p := ⟨w.heap.size + 1, 1, none⟩) hle1 (.slice x0 m1 x2)).setCell (p := ⟨w.heap.size + 1, 2, none⟩) hle1 (.slice y0 m2 y2))
  have Y3 := hidIt ((((Only.refl (w.heap.size + 1) (w2.setCell ⟨w.heap.size + 1 + 1, 2, none⟩ (.slice y0 m2 y2))).setCell 0 (.int .i64 nw)).setCell 1 (.slice x0 m1 x2)).setCell 2 (.slice y0 m2 y2))
  have ON6 := hidIt (ON5.out.apart (Rp.OnlyIn.of_only (lo := w.heap.size + 1) (hi := w.heap.size + 1 + 1) Y3.out (.inr ⟨Nat.le_refl _, Nat.lt_succ_self _⟩)) (.inr (by omega)))
  have OK6 := hidIt (OK5.out.only Y3.out (.inl (by omega)))
  have hsz3 : ((((w2.setCell ⟨w.heap.size + 1 + 1, 2, none⟩ (.slice y0 m2 y2)).setCell ⟨w.heap.size + 1, 0, none⟩ (.int .i64 nw)).setCell ⟨w.heap.size + 1, 1, none⟩ (.slice x0 m1 x2)).setCell ⟨w.heap.size + 1, 2, none⟩ (.slice y0 m2 y2)).heap.size = w2.heap.size := by simp [World.setCell]
  clear HB4 BR4 BO4 ON4 OK4 CV BR5 HB5 ON5 OK5 Y2 Y3 hsz2
  go_wp2_with (fail)
  generalize (((w2.setCell ⟨w.heap.size + 1 + 1, 2, none⟩ (.slice y0 m2 y2)).setCell ⟨w.heap.size + 1, 0, none⟩ (.int .i64 nw)).setCell ⟨w.heap.size + 1, 1, none⟩ (.slice x0 m1 x2)).setCell ⟨w.heap.size + 1, 2, none⟩ (.slice y0 m2 y2) = W3 at BR6 HB6 ON6 OK6 hsz3 ⊢
  clear o2 p2 e0 e1 e2 r0 r1 r2 f0 f1 f2
  have x0' := BR6.out.c 0 (v := .int .i64 nw) rfl
  have x1' := BR6.out.c 1 (v := .slice x0 m1 x2) rfl
  have x2' := BR6.out.c 2 (v := .slice y0 m2 y2) rfl
  refine bodyPost_ret (v := .agg #[.int .i64 nw, .slice x0 m1 x2, .slice y0 m2 y2]) (by simp [results, Tryz.results6, go_sem, x0', x1', x2']) rfl ?_
  have q1 := H1.out
  have q2 := H2.out
  subst q1 q2
  have hn3 : w.heap.size ≤ w.heap.size + 1 + 1 + 1 := by omega
  exact KluP.of (n := (x0, ns.length, x2)) (k := (y0, ck.length, y2)) rfl ⟨ON6.out.mono hn3 (by omega) (Nat.le_refl _), OK6.out.mono hn3, fun g hg => (World.ownsRow.lt OK6.out g hg).2⟩ HB6.out
end Go.Proofs.YtceddedlfdgbhaaGreatDoor.Kc
namespace Go.Proofs.YtceddedlfdgbhaaGreatDoor.Rp
open Go.ChangeShapes Go.WideShapes Go.ChangeAt Go.RowKit
open Go.Proofs.YtceddedlfdgbhaaGreatDoor.Vv (Sl sv hidIt)
set_option linter.unusedVariables false
set_option maxRecDepth 100000 in
set_option maxHeartbeats 4000000 in
theorem impl_replicaOk (s t : Sl) (r : Rep) (w : World) (hE : RdE w s r.1) (hM : RdM w t r.2) (hs : En.shortR r.1) (h1 : r.1.length ≤ 9223372036854775807) (h2 : r.2.length ≤ 9223372036854775807) :
    Calls Tryz.prog 64 #[.agg #[sv s, sv t]] w fun e w' => e = .returned (.bool (okR r)) ∧ Below w.heap.size w w' := by
  obtain ⟨s0, s1, s2⟩ := s
  obtain ⟨t0, t1, t2⟩ := t
  obtain ⟨e1, r1, _, _, _⟩ := hE
  obtain ⟨e2, r2, _, _, _⟩ := hM
  simp only at e1 r1 e2 r2
  have C1 := hidIt (fun W (k : En.Rd W s0 r.1) => En.impl_BookOk s0 s2 r.1 W k h1 hs)
  have C2 := hidIt (fun W (k : Mm.Rd W t0 r.2) => Mm.impl_MembersOk t0 t2 r.2 W k h2)
  rw [← e1] at C1
  rw [← e2] at C2
  have HOK : Hid (okR r = (Bk.okBk (En.toB r.1) && Mk.okBk (Mm.toB r.2))) := hidIt rfl
  generalize Bk.okBk (En.toB r.1) = k1 at C1 HOK
  generalize Mk.okBk (Mm.toB r.2) = k2 at C2 HOK
  generalize okR r = k at HOK ⊢
  have HB := hidIt ((Below.refl w.heap.size w).alloc (Nat.le_refl _) (.cells #[.slice s0 s1 s2, .slice t0 t1 t2] 40))
  have H1 := hidIt (r1.kept HB.out)
  have H2 := hidIt (r2.kept HB.out)
  have BX := hidIt (Bo.Box.new w #[.slice s0 s1 s2, .slice t0 t1 t2] 40)
  clear r1 r2 e1 e2 hs
  simp only [sv]
  cases k1 with
  | false =>
    have er := HOK.out
    simp only [Bool.false_and] at er
    subst er
    go_enter Tryz.func64, Tryz.ntmps64
    go_wp2_with (fail)
    refine (C1.out _ H1.out).mono ?_
    rintro e w1 ⟨rfl, k⟩
    have HB1 := hidIt (on HB.out k)
    clear k
    go_wp2_with (fail)
    go_ret
    exact ⟨rfl, HB1.out⟩
  | true =>
    have er := HOK.out
    simp only [Bool.true_and] at er
    subst er
    go_enter Tryz.func64, Tryz.ntmps64
    go_wp2_with (fail)
    refine (C1.out _ H1.out).mono ?_
    rintro e w1 ⟨rfl, k1⟩
    have HB1 := hidIt (on HB.out k1)
    have BX1 := hidIt (BX.out.kept k1)
    have c1 := BX1.out.c 1 rfl
    have H3 := hidIt (H2.out.kept k1)
    clear k1
    go_wp2_with (fail)
    refine (C2.out _ H3.out).mono ?_
    rintro e w2 ⟨rfl, k2⟩
    have HB2 := hidIt (on HB1.out k2)
    clear k2
    go_wp2_with (fail)
    go_ret
    exact ⟨rfl, HB2.out⟩
end Go.Proofs.YtceddedlfdgbhaaGreatDoor.Rp
namespace Go.Proofs.YtceddedlfdgbhaaGreatDoor.Nd
open Go.ChangeShapes Go.WideShapes Go.ChangeAt Go.RowKit
open Go.Proofs.YtceddedlfdgbhaaGreatDoor.Vv (Sl sv hidIt)
set_option linter.unusedVariables false
set_option maxRecDepth 100000 in
set_option maxHeartbeats 16000000 in
theorem impl_NodeOk (x : Nw) (e m b g : Sl) (w : World) (h : RdN w x e m b g) (hs : ShortN x) (ht : Sg.Tab w) :
    Calls Tryz.prog 45 #[nv x e m b g] w fun en w' => en = .returned (.bool (okN x)) ∧ Below w.heap.size w w' := by
  have hE := h.e
  have hM := h.m
  obtain ⟨bk, mm, ph, mn, ol, nw, tm, bu, lg, ap⟩ := x
  obtain ⟨e0, e1, e2⟩ := e
  obtain ⟨t0, t1, t2⟩ := m
  obtain ⟨b0, b1, b2⟩ := b
  obtain ⟨g0, g1, g2⟩ := g
  obtain ⟨⟨z1, rE, nE, lE, cE⟩, ⟨z2, rM, nM, lM, cM⟩, ⟨z3, rB, nB, lB, cB⟩, ⟨z4, rG, lG, cG⟩⟩ := h
  simp only at z1 rE nE lE cE z2 rM nM lM cM z3 rB nB lB cB z4 rG lG cG
  obtain ⟨sE, sG, sA⟩ := hs
  simp only at sE sG sA
  simp only at hE hM
  have C1 := hidIt (fun W (k : Rp.RdE W (e0, e1, e2) bk) (k' : Rp.RdM W (t0, t1, t2) mm) => Rp.impl_replicaOk (e0, e1, e2) (t0, t1, t2) (bk, mm) W k k' sE (by show bk.length ≤ _; omega) (by show mm.length ≤ _; omega))
  have C3 : Hid (∀ W, Calls Tryz.prog 65 #[.agg #[.int .i64 ph, .int .i64 mn, .int .i64 ol, .int .i64 nw, .int .i64 tm]] W fun en w' => en = .returned (.bool (Ro.rollOk ph mn ol nw tm)) ∧ Below W.heap.size W w') := hidIt (fun W => (Ro.impl_RollOk ph mn ol nw tm W).mono (fun en w' ⟨a, c⟩ => ⟨a, by rw [c]; exact ((Below.refl _ _).alloc (Nat.le_refl _) _).alloc (by simp) _⟩))
  have C4 := hidIt (fun W (r : Bu.Rd W b0 bu) => Bu.impl_BucketsOk b0 b2 bu W r (by omega))
  have C5 := hidIt (fun W (r : Lg.Rd W g0 lg) (t : Sg.Tab W) => Lg.impl_LogOk g0 g2 lg W r (by omega) t)
  have C6 := hidIt (fun W => impl_hasLabels ap W)
  have HT := hidIt (fun W (k : Below w.heap.size w W) => ht.kept k)
  have HOK : Hid (okN ⟨bk, mm, ph, mn, ol, nw, tm, bu, lg, ap⟩ = (Rp.okR (bk, mm) && (Ro.rollOk ph mn ol nw tm && (Bu.okB bu && (Lg.okL lg && apexB ap))))) := hidIt (by unfold okN Rp.okR; simp only [Bool.and_assoc])
  have HE := hidIt hE
  have HM := hidIt hM
  have RB := hidIt rB
  have RG := hidIt rG
  clear hE hM rE rM rB rG sE sG sA ht
  subst z1 z2 z3 z4
  simp only [sv] at C1
  simp only [nv, nc, sv]
  generalize okN ⟨bk, mm, ph, mn, ol, nw, tm, bu, lg, ap⟩ = r at HOK ⊢
  generalize Rp.okR (bk, mm) = k1 at C1 HOK
  generalize Ro.rollOk ph mn ol nw tm = k3 at C3 HOK
  generalize Bu.okB bu = k4 at C4 HOK
  generalize Lg.okL lg = k5 at C5 HOK
  generalize apexB ap = k6 at C6 HOK
  generalize bk.length = m1 at *
  generalize mm.length = m2 at *
  generalize bu.length = m3 at *
  generalize lg.length = m4 at *
  cases k1 with
  | false =>
    have er : r = false := by rw [HOK.out]; rfl
    subst er
    have BX := hidIt (Bo.Box.new w #[.slice e0 m1 e2, .slice t0 m2 t2, .int .i64 ph, .int .i64 mn, .int .i64 ol, .int .i64 nw, .int .i64 tm, .slice b0 m3 b2, .slice g0 m4 g2, .string ap] 46)
    have HB := hidIt ((Below.refl w.heap.size w).alloc (Nat.le_refl _) (.cells #[.slice e0 m1 e2, .slice t0 m2 t2, .int .i64 ph, .int .i64 mn, .int .i64 ol, .int .i64 nw, .int .i64 tm, .slice b0 m3 b2, .slice g0 m4 g2, .string ap] 46))
    have d0 := BX.out.c 0 (v := .slice e0 m1 e2) rfl
    have d1 := BX.out.c 1 (v := .slice t0 m2 t2) rfl
    go_enter Tryz.func45, Tryz.ntmps45
    go_wp2_with (fail)
    refine (C1.out _ (HE.out.kept HB.out) (HM.out.kept HB.out)).mono ?_
    rintro en w1 ⟨rfl, kk⟩
    replace HB := hidIt (on HB.out kk)
    replace BX := hidIt (BX.out.kept kk)
    clear kk d0 d1
    go_wp2_with (fail)
    go_ret
    exact ⟨rfl, HB.out⟩
  | true =>
    cases k3 with
    | false =>
      have er : r = false := by rw [HOK.out]; rfl
      subst er
      have BX := hidIt (Bo.Box.new w #[.slice e0 m1 e2, .slice t0 m2 t2, .int .i64 ph, .int .i64 mn, .int .i64 ol, .int .i64 nw, .int .i64 tm, .slice b0 m3 b2, .slice g0 m4 g2, .string ap] 46)
      have HB := hidIt ((Below.refl w.heap.size w).alloc (Nat.le_refl _) (.cells #[.slice e0 m1 e2, .slice t0 m2 t2, .int .i64 ph, .int .i64 mn, .int .i64 ol, .int .i64 nw, .int .i64 tm, .slice b0 m3 b2, .slice g0 m4 g2, .string ap] 46))
      have d0 := BX.out.c 0 (v := .slice e0 m1 e2) rfl
      have d1 := BX.out.c 1 (v := .slice t0 m2 t2) rfl
      go_enter Tryz.func45, Tryz.ntmps45
      go_wp2_with (fail)
      refine (C1.out _ (HE.out.kept HB.out) (HM.out.kept HB.out)).mono ?_
      rintro en w1 ⟨rfl, kk⟩
      replace HB := hidIt (on HB.out kk)
      replace BX := hidIt (BX.out.kept kk)
      clear kk d0 d1
      have d2 := BX.out.c 2 (v := .int .i64 ph) rfl
      have d3 := BX.out.c 3 (v := .int .i64 mn) rfl
      have d4 := BX.out.c 4 (v := .int .i64 ol) rfl
      have d5 := BX.out.c 5 (v := .int .i64 nw) rfl
      have d6 := BX.out.c 6 (v := .int .i64 tm) rfl
      go_wp2_with (fail)
      refine (C3.out _).mono ?_
      rintro en w2 ⟨rfl, kk⟩
      replace HB := hidIt (on HB.out kk)
      replace BX := hidIt (BX.out.kept kk)
      clear kk d2 d3 d4 d5 d6
      go_wp2_with (fail)
      go_ret
      exact ⟨rfl, HB.out⟩
    | true =>
      cases k4 with
      | false =>
        have er : r = false := by rw [HOK.out]; rfl
        subst er
        have BX := hidIt (Bo.Box.new w #[.slice e0 m1 e2, .slice t0 m2 t2, .int .i64 ph, .int .i64 mn, .int .i64 ol, .int .i64 nw, .int .i64 tm, .slice b0 m3 b2, .slice g0 m4 g2, .string ap] 46)
        have HB := hidIt ((Below.refl w.heap.size w).alloc (Nat.le_refl _) (.cells #[.slice e0 m1 e2, .slice t0 m2 t2, .int .i64 ph, .int .i64 mn, .int .i64 ol, .int .i64 nw, .int .i64 tm, .slice b0 m3 b2, .slice g0 m4 g2, .string ap] 46))
        have d0 := BX.out.c 0 (v := .slice e0 m1 e2) rfl
        have d1 := BX.out.c 1 (v := .slice t0 m2 t2) rfl
        go_enter Tryz.func45, Tryz.ntmps45
        go_wp2_with (fail)
        refine (C1.out _ (HE.out.kept HB.out) (HM.out.kept HB.out)).mono ?_
        rintro en w1 ⟨rfl, kk⟩
        replace HB := hidIt (on HB.out kk)
        replace BX := hidIt (BX.out.kept kk)
        clear kk d0 d1
        have d2 := BX.out.c 2 (v := .int .i64 ph) rfl
        have d3 := BX.out.c 3 (v := .int .i64 mn) rfl
        have d4 := BX.out.c 4 (v := .int .i64 ol) rfl
        have d5 := BX.out.c 5 (v := .int .i64 nw) rfl
        have d6 := BX.out.c 6 (v := .int .i64 tm) rfl
        go_wp2_with (fail)
        refine (C3.out _).mono ?_
        rintro en w2 ⟨rfl, kk⟩
        replace HB := hidIt (on HB.out kk)
        replace BX := hidIt (BX.out.kept kk)
        clear kk d2 d3 d4 d5 d6
        have d7 := BX.out.c 7 (v := .slice b0 m3 b2) rfl
        go_wp2_with (fail)
        refine (C4.out _ (RB.out.kept HB.out)).mono ?_
        rintro en w3 ⟨rfl, kk⟩
        replace HB := hidIt (on HB.out kk)
        replace BX := hidIt (BX.out.kept kk)
        clear kk d7
        go_wp2_with (fail)
        go_ret
        exact ⟨rfl, HB.out⟩
      | true =>
        cases k5 with
        | false =>
          have er : r = false := by rw [HOK.out]; rfl
          subst er
          have BX := hidIt (Bo.Box.new w #[.slice e0 m1 e2, .slice t0 m2 t2, .int .i64 ph, .int .i64 mn, .int .i64 ol, .int .i64 nw, .int .i64 tm, .slice b0 m3 b2, .slice g0 m4 g2, .string ap] 46)
          have HB := hidIt ((Below.refl w.heap.size w).alloc (Nat.le_refl _) (.cells #[.slice e0 m1 e2, .slice t0 m2 t2, .int .i64 ph, .int .i64 mn, .int .i64 ol, .int .i64 nw, .int .i64 tm, .slice b0 m3 b2, .slice g0 m4 g2, .string ap] 46))
          have d0 := BX.out.c 0 (v := .slice e0 m1 e2) rfl
          have d1 := BX.out.c 1 (v := .slice t0 m2 t2) rfl
          go_enter Tryz.func45, Tryz.ntmps45
          go_wp2_with (fail)
          refine (C1.out _ (HE.out.kept HB.out) (HM.out.kept HB.out)).mono ?_
          rintro en w1 ⟨rfl, kk⟩
          replace HB := hidIt (on HB.out kk)
          replace BX := hidIt (BX.out.kept kk)
          clear kk d0 d1
          have d2 := BX.out.c 2 (v := .int .i64 ph) rfl
          have d3 := BX.out.c 3 (v := .int .i64 mn) rfl
          have d4 := BX.out.c 4 (v := .int .i64 ol) rfl
          have d5 := BX.out.c 5 (v := .int .i64 nw) rfl
          have d6 := BX.out.c 6 (v := .int .i64 tm) rfl
          go_wp2_with (fail)
          refine (C3.out _).mono ?_
          rintro en w2 ⟨rfl, kk⟩
          replace HB := hidIt (on HB.out kk)
          replace BX := hidIt (BX.out.kept kk)
          clear kk d2 d3 d4 d5 d6
          have d7 := BX.out.c 7 (v := .slice b0 m3 b2) rfl
          go_wp2_with (fail)
          refine (C4.out _ (RB.out.kept HB.out)).mono ?_
          rintro en w3 ⟨rfl, kk⟩
          replace HB := hidIt (on HB.out kk)
          replace BX := hidIt (BX.out.kept kk)
          clear kk d7
          have d8 := BX.out.c 8 (v := .slice g0 m4 g2) rfl
          go_wp2_with (fail)
          refine (C5.out _ (RG.out.kept HB.out) (HT.out _ HB.out)).mono ?_
          rintro en w4 ⟨rfl, kk⟩
          replace HB := hidIt (on HB.out kk)
          replace BX := hidIt (BX.out.kept kk)
          clear kk d8
          go_wp2_with (fail)
          go_ret
          exact ⟨rfl, HB.out⟩
        | true =>
          cases k6 with
          | false =>
            have er : r = false := by rw [HOK.out]; rfl
            subst er
            have BX := hidIt (Bo.Box.new w #[.slice e0 m1 e2, .slice t0 m2 t2, .int .i64 ph, .int .i64 mn, .int .i64 ol, .int .i64 nw, .int .i64 tm, .slice b0 m3 b2, .slice g0 m4 g2, .string ap] 46)
            have HB := hidIt ((Below.refl w.heap.size w).alloc (Nat.le_refl _) (.cells #[.slice e0 m1 e2, .slice t0 m2 t2, .int .i64 ph, .int .i64 mn, .int .i64 ol, .int .i64 nw, .int .i64 tm, .slice b0 m3 b2, .slice g0 m4 g2, .string ap] 46))
            have d0 := BX.out.c 0 (v := .slice e0 m1 e2) rfl
            have d1 := BX.out.c 1 (v := .slice t0 m2 t2) rfl
            go_enter Tryz.func45, Tryz.ntmps45
            go_wp2_with (fail)
            refine (C1.out _ (HE.out.kept HB.out) (HM.out.kept HB.out)).mono ?_
            rintro en w1 ⟨rfl, kk⟩
            replace HB := hidIt (on HB.out kk)
            replace BX := hidIt (BX.out.kept kk)
            clear kk d0 d1
            have d2 := BX.out.c 2 (v := .int .i64 ph) rfl
            have d3 := BX.out.c 3 (v := .int .i64 mn) rfl
            have d4 := BX.out.c 4 (v := .int .i64 ol) rfl
            have d5 := BX.out.c 5 (v := .int .i64 nw) rfl
            have d6 := BX.out.c 6 (v := .int .i64 tm) rfl
            go_wp2_with (fail)
            refine (C3.out _).mono ?_
            rintro en w2 ⟨rfl, kk⟩
            replace HB := hidIt (on HB.out kk)
            replace BX := hidIt (BX.out.kept kk)
            clear kk d2 d3 d4 d5 d6
            have d7 := BX.out.c 7 (v := .slice b0 m3 b2) rfl
            go_wp2_with (fail)
            refine (C4.out _ (RB.out.kept HB.out)).mono ?_
            rintro en w3 ⟨rfl, kk⟩
            replace HB := hidIt (on HB.out kk)
            replace BX := hidIt (BX.out.kept kk)
            clear kk d7
            have d8 := BX.out.c 8 (v := .slice g0 m4 g2) rfl
            go_wp2_with (fail)
            refine (C5.out _ (RG.out.kept HB.out) (HT.out _ HB.out)).mono ?_
            rintro en w4 ⟨rfl, kk⟩
            replace HB := hidIt (on HB.out kk)
            replace BX := hidIt (BX.out.kept kk)
            clear kk d8
            have d9 := BX.out.c 9 (v := .string ap) rfl
            go_wp2_with (fail)
            refine (C6.out _).mono ?_
            rintro en w5 ⟨rfl, kk⟩
            replace HB := hidIt (on HB.out kk)
            replace BX := hidIt (BX.out.kept kk)
            clear kk d9
            go_wp2_with (fail)
            go_ret
            exact ⟨rfl, HB.out⟩
          | true =>
            have er : r = true := by rw [HOK.out]; rfl
            subst er
            have BX := hidIt (Bo.Box.new w #[.slice e0 m1 e2, .slice t0 m2 t2, .int .i64 ph, .int .i64 mn, .int .i64 ol, .int .i64 nw, .int .i64 tm, .slice b0 m3 b2, .slice g0 m4 g2, .string ap] 46)
            have HB := hidIt ((Below.refl w.heap.size w).alloc (Nat.le_refl _) (.cells #[.slice e0 m1 e2, .slice t0 m2 t2, .int .i64 ph, .int .i64 mn, .int .i64 ol, .int .i64 nw, .int .i64 tm, .slice b0 m3 b2, .slice g0 m4 g2, .string ap] 46))
            have d0 := BX.out.c 0 (v := .slice e0 m1 e2) rfl
            have d1 := BX.out.c 1 (v := .slice t0 m2 t2) rfl
            go_enter Tryz.func45, Tryz.ntmps45
            go_wp2_with (fail)
            refine (C1.out _ (HE.out.kept HB.out) (HM.out.kept HB.out)).mono ?_
            rintro en w1 ⟨rfl, kk⟩
            replace HB := hidIt (on HB.out kk)
            replace BX := hidIt (BX.out.kept kk)
            clear kk d0 d1
            have d2 := BX.out.c 2 (v := .int .i64 ph) rfl
            have d3 := BX.out.c 3 (v := .int .i64 mn) rfl
            have d4 := BX.out.c 4 (v := .int .i64 ol) rfl
            have d5 := BX.out.c 5 (v := .int .i64 nw) rfl
            have d6 := BX.out.c 6 (v := .int .i64 tm) rfl
            go_wp2_with (fail)
            refine (C3.out _).mono ?_
            rintro en w2 ⟨rfl, kk⟩
            replace HB := hidIt (on HB.out kk)
            replace BX := hidIt (BX.out.kept kk)
            clear kk d2 d3 d4 d5 d6
            have d7 := BX.out.c 7 (v := .slice b0 m3 b2) rfl
            go_wp2_with (fail)
            refine (C4.out _ (RB.out.kept HB.out)).mono ?_
            rintro en w3 ⟨rfl, kk⟩
            replace HB := hidIt (on HB.out kk)
            replace BX := hidIt (BX.out.kept kk)
            clear kk d7
            have d8 := BX.out.c 8 (v := .slice g0 m4 g2) rfl
            go_wp2_with (fail)
            refine (C5.out _ (RG.out.kept HB.out) (HT.out _ HB.out)).mono ?_
            rintro en w4 ⟨rfl, kk⟩
            replace HB := hidIt (on HB.out kk)
            replace BX := hidIt (BX.out.kept kk)
            clear kk d8
            have d9 := BX.out.c 9 (v := .string ap) rfl
            go_wp2_with (fail)
            refine (C6.out _).mono ?_
            rintro en w5 ⟨rfl, kk⟩
            replace HB := hidIt (on HB.out kk)
            replace BX := hidIt (BX.out.kept kk)
            clear kk d9
            go_wp2_with (fail)
            go_ret
            exact ⟨rfl, HB.out⟩
end Go.Proofs.YtceddedlfdgbhaaGreatDoor.Nd
namespace Go.Proofs.YtceddedlfdgbhaaGreatDoor.Vv
open Go.ChangeShapes Go.WideShapes Go.ChangeAt Go.RowKit
set_option linter.unusedVariables false
abbrev Rw := Sl × Sl
/-- One as a value. -/
abbrev rv (x : Rw) : Value := .agg #[sv x.1, sv x.2]
abbrev rc (x : Rw) : Array Value := #[sv x.1, sv x.2]
def rat (L : List Rw) (i : Nat) : Rw := L.getD i ((none, 0, 0), (none, 0, 0))
theorem rat_at {L : List Rw} {i : Nat} (h : i < L.length) : rat L i = L[i] := by
  unfold rat
  rw [List.getD_eq_getElem?_getD, List.getElem?_eq_getElem h]
  rfl
theorem rat_getElem? {L : List Rw} {i : Nat} (h : i < L.length) : L[i]? = some (rat L i) := by rw [rat_at h, List.getElem?_eq_getElem h]
theorem rat_mem {L : List Rw} {i : Nat} (h : i < L.length) : rat L i ∈ L := by rw [rat_at h]; exact List.getElem_mem h
theorem rat_set {L : List Rw} {i j : Nat} {x : Rw} (h : i < L.length) : rat (L.set i x) j = if i = j then x else rat L j := by
  unfold rat
  rw [List.getD_eq_getElem?_getD, List.getD_eq_getElem?_getD, List.getElem?_set]
  by_cases e : i = j
  · subst e; simp [h]
  · simp [e]
theorem rat_take {L : List Rw} {k i : Nat} (h : i < k) : rat (L.take k) i = rat L i := by
  unfold rat
  rw [List.getD_eq_getElem?_getD, List.getD_eq_getElem?_getD, List.getElem?_take, if_pos h]
theorem take_rat {L : List Rw} {i : Nat} (h : i < L.length) : L.take (i + 1) = L.take i ++ [rat L i] := by
  rw [List.take_add_one, rat_getElem? h]
  rfl
theorem ext_rat {L M : List Rw} (h : L.length = M.length) (e : ∀ i, i < L.length → rat L i = rat M i) : L = M := by
  apply List.ext_getElem?
  intro i
  by_cases hi : i < L.length
  · rw [rat_getElem? hi, rat_getElem? (by omega), e i hi]
  · rw [List.getElem?_eq_none (by omega), List.getElem?_eq_none (by omega)]
def rcell (x : Rw) : Nat → Value
  | 0 => sv x.1
  | _ => sv x.2
def rcells : List Rw → List Value
  | [] => []
  | x :: r => sv x.1 :: sv x.2 :: rcells r
theorem rcells_cons (x : Rw) (r : List Rw) : rcells (x :: r) = sv x.1 :: sv x.2 :: rcells r := rfl
theorem rcells_length (L : List Rw) : (rcells L).length = L.length * 2 := by
  induction L with
  | nil => rfl
  | cons x r ih => simp only [rcells_cons, List.length_cons, ih]; omega
theorem rcells_append (L M : List Rw) : rcells (L ++ M) = rcells L ++ rcells M := by
  induction L with
  | nil => rfl
  | cons x r ih => rw [List.cons_append, rcells_cons, rcells_cons, ih]; rfl
theorem rcells_one (L : List Rw) : ∀ u ∈ rcells L, u.oneCell' = true := by
  induction L with
  | nil => intro u hu; cases hu
  | cons x r ih =>
    intro u hu
    rw [rcells_cons] at hu
    simp only [List.mem_cons] at hu
    rcases hu with rfl | rfl | hu
    · rfl
    · rfl
    · exact ih u hu
theorem rcells_get (L : List Rw) : ∀ i j, i < L.length → j < 2 → (rcells L)[i * 2 + j]? = some (rcell (rat L i) j) := by
  induction L with
  | nil => intro i j hi; simp at hi
  | cons x r ih =>
    intro i j hi hj
    cases i with
    | zero =>
      match j, hj with
      | 0, _ => rfl
      | 1, _ => rfl
    | succ k =>
      rw [rcells_cons, show (k + 1) * 2 + j = k * 2 + j + 1 + 1 by omega, List.getElem?_cons_succ, List.getElem?_cons_succ, ih k j (by simp at hi; omega) hj]
      rfl
theorem rcells_set (L : List Rw) : ∀ i j (v : Value) (y : Rw), i < L.length → j < 2 → (∀ k, k < 2 → rcell y k = if k = j then v else rcell (rat L i) k) → (rcells L).set (i * 2 + j) v = rcells (L.set i y) := by
  induction L with
  | nil => intro i j v y hi; simp at hi
  | cons x r ih =>
    intro i j v y hi hj h
    cases i with
    | zero =>
      have e0 := h 0 (by omega)
      have e1 := h 1 (by omega)
      rw [List.set_cons_zero, rcells_cons y r, show (sv y.1 : Value) = rcell y 0 from rfl, show (sv y.2 : Value) = rcell y 1 from rfl, e0, e1]
      match j, hj with
      | 0, _ => rfl
      | 1, _ => rfl
    | succ k =>
      rw [rcells_cons, show (k + 1) * 2 + j = k * 2 + j + 1 + 1 by omega, List.set_cons_succ, List.set_cons_succ, ih k j v y (by simp at hi; omega) hj (fun n hn => h n hn)]
      rfl
theorem rcells_swap_len (L : List Rw) (i j : Nat) (x y : Rw) : ((L.set i x).set j y).length = L.length := by rw [List.length_set, List.length_set]
/-- A slice at address a reads as the list L. -/
structure Rd (w : World) (a : Option Addr) (L : List Rw) : Prop where
  cell : ∀ i, i < L.length → ∃ b off, a = some ⟨b, off, none⟩ ∧ ∀ j, j < 2 → w.cell? ⟨b, off + (i * 2 + j), none⟩ = some (rcell (rat L i) j)
theorem Rd.all {w : World} {a : Option Addr} {L : List Rw} (h : Rd w a L) {i : Nat} (hi : i < L.length) : ∃ b off, a = some ⟨b, off, none⟩ ∧ w.cell? ⟨b, off + i * 2, none⟩ = some (sv (rat L i).1) ∧ w.cell? ⟨b, off + i * 2 + 1, none⟩ = some (sv (rat L i).2) := by
  obtain ⟨b, off, e, c⟩ := h.cell i hi
  exact ⟨b, off, e, c 0 (by omega), by rw [Nat.add_assoc]; exact c 1 (by omega)⟩
theorem cell_block {w : World} {b o : Nat} {v : Value} (h : w.cell? ⟨b, o, none⟩ = some v) : b < w.heap.size := World.block_lt_of_cell? w ⟨b, o, none⟩ h
theorem Rd.kept {w w' : World} {a : Option Addr} {L : List Rw} (h : Rd w a L) (k : Below w.heap.size w w') : Rd w' a L :=
  ⟨fun i hi => by
    obtain ⟨b, off, e, c⟩ := h.cell i hi
    exact ⟨b, off, e, fun j hj => by rw [k.cell (by simpa using cell_block (c j hj))]; exact c j hj⟩⟩
theorem Rd.alloc {w : World} {a : Option Addr} {L : List Rw} (h : Rd w a L) (o : Obj) : Rd (w.alloc o) a L := h.kept ((Below.refl _ _).alloc (Nat.le_refl _) o)
theorem Rd.drew {w : World} {a : Option Addr} {L : List Rw} (h : Rd w a L) : Rd w.drew a L := ⟨h.cell⟩
theorem Rd.take {w : World} {a : Option Addr} {L : List Rw} (h : Rd w a L) (k : Nat) : Rd w a (L.take k) :=
  ⟨fun i hi => by
    rw [List.length_take] at hi
    rw [rat_take (by omega)]
    exact h.cell i (by omega)⟩
theorem Rd.nil (w : World) (a : Option Addr) : Rd w a [] := ⟨fun i hi => by simp at hi⟩
theorem Rd.none_nil {w : World} {L : List Rw} (h : Rd w none L) : L = [] := by
  cases L with
  | nil => rfl
  | cons x r => obtain ⟨b, off, e, _⟩ := h.cell 0 (by simp); cases e
/-- The slice v owns the list L in a row of the call's own. -/
def Own (w : World) (base : Nat) (v : Value) (L : List Rw) : Prop := w.ownsRow base 40 2 v L.length (rcells L)
theorem Own.form {w : World} {base : Nat} {v : Value} {L : List Rw} (h : Own w base v L) : ∃ a cap, v = .slice a L.length cap ∧ L.length ≤ cap ∧ cap ≤ maxLen ∧ Rd w a L ∧ (a = none → cap = 0) ∧ (∀ x, a = some x → ∃ g, x = ⟨g, 0, none⟩ ∧ base ≤ g ∧ g < w.heap.size) := by
  have h' := h
  rcases h.2 with ⟨rfl, h0⟩ | ⟨g, cap, cur, rfl, hb, hg, hn, hm, rest⟩
  · exact ⟨none, 0, by rw [h0], by omega, by decide, ⟨fun i hi => by omega⟩, fun _ => rfl, fun x hx => by cases hx⟩
  · refine ⟨some ⟨g, 0, none⟩, cap, rfl, hn, hm, ⟨fun i hi => ⟨g, 0, rfl, fun j hj => ?_⟩⟩, (fun e => by cases e), fun x hx => ⟨g, by cases hx; rfl, hb, (Array.getElem?_eq_some_iff.1 hg).1⟩⟩
    rw [Nat.zero_add, World.ownsRow.cellAt h' _ (by omega), rcells_get _ _ _ hi hj]
theorem Own.formN {w : World} {base m : Nat} {v : Value} {L : List Rw} (h : Own w base v L) (hn : L.length = m) : ∃ a cap, v = .slice a m cap ∧ m ≤ cap ∧ cap ≤ maxLen ∧ Rd w a L := by
  subst hn
  obtain ⟨a, cap, e, h1, h2, r, _⟩ := h.form
  exact ⟨a, cap, e, h1, h2, r⟩
theorem Own.kept {w w' : World} {base : Nat} {v : Value} {L : List Rw} (h : Own w base v L) (k : Below w.heap.size w w') : Own w' base v L :=
  World.ownsRow.kept (row := none) h ⟨k.os, k.tape, k.output, k.size, fun i hi _ => k.block i hi⟩ (by cases v.ownBlock <;> simp)
theorem Own.alloc {w : World} {base : Nat} {v : Value} {L : List Rw} (h : Own w base v L) (o : Obj) : Own (w.alloc o) base v L := World.ownsRow.alloc h o
theorem Own.drew {w : World} {base : Nat} {v : Value} {L : List Rw} (h : Own w base v L) : Own w.drew base v L := h
theorem Own.only {w w' : World} {base c : Nat} {v : Value} {L : List Rw} (h : Own w base v L) (k : Only c w w') (hc : c < base ∨ ∀ g, v.ownBlock = some g → g ≠ c) : Own w' base v L := by
  refine World.ownsRow.kept h (row := some c) ⟨k.os, k.tape, k.output, k.size, fun i hi hne => k.block i hi (fun e => hne (by rw [e]))⟩ ?_
  cases hv : v.ownBlock with
  | none => exact .inl rfl
  | some g =>
    refine .inr (fun e => ?_)
    cases e
    rcases hc with hc | hc
    · have := (World.ownsRow.lt h _ hv).1; omega
    · exact hc _ hv rfl
theorem Own.mono {w : World} {base b' : Nat} {v : Value} {L : List Rw} (h : Own w base v L) (hb : b' ≤ base) : Own w b' v L := by
  refine ⟨h.1, ?_⟩
  rcases h.2 with h0 | ⟨g, cap, cur, e, hb', r⟩
  · exact .inl h0
  · exact .inr ⟨g, cap, cur, e, by omega, r⟩
theorem Own.new (w : World) : Own (w.alloc (.cells #[] 40)) w.heap.size (.slice (some ⟨w.heap.size, 0, none⟩) 0 0) [] :=
  World.ownsRow_made w #[] 0 (Nat.le_refl _) (by decide) rfl
theorem Own.ofNil (w : World) (base : Nat) : Own w base (.slice none 0 0) [] := World.ownsRow_nil _ _ _ _
theorem Own.one (w : World) (x : Rw) {k : Nat} (h : w.heap.size = k) : Own (w.alloc (.cells (rc x) 40)) k (.slice (some ⟨k, 0, none⟩) 1 1) [x] := by
  subst h
  exact ⟨rfl, .inr ⟨w.heap.size, 1, _, rfl, Nat.le_refl _, heap_alloc_new w _, Nat.le_refl _, by decide, rfl, rfl⟩⟩
theorem Own.more {w : World} {base : Nat} {v : Value} {L M : List Rw} (h : w.ownsRow base 40 2 v (L.length + M.length) (rcells L ++ rcells M)) : Own w base v (L ++ M) := by
  unfold Own
  rw [List.length_append, rcells_append]
  exact h
theorem Own.free {w : World} {base g m cap : Nat} {L : List Rw} (h : Own w base (.slice (some ⟨g, 0, none⟩) m cap) L) (j : Nat) : w.frozen? ⟨g, j, none⟩ = false := by
  obtain ⟨a, c', e, _⟩ := h.form
  cases e
  exact World.ownsRow.frozenAt h j
theorem Own.at {w : World} {base g m cap i j : Nat} {L : List Rw} (h : Own w base (.slice (some ⟨g, 0, none⟩) m cap) L) (hi : i < L.length) (hj : j < 2) : w.cell? ⟨g, i * 2 + j, none⟩ = some (rcell (rat L i) j) := by
  obtain ⟨a', c', e1, _, _, r, _⟩ := h.form
  cases e1
  obtain ⟨b', o', e2, k⟩ := r.cell i hi
  cases e2
  simpa using k j hj
/-- A store into one cell of number i. -/
theorem Own.set {w : World} {base g m cap i j : Nat} {L : List Rw} {v : Value} {y : Rw} (h : Own w base (.slice (some ⟨g, 0, none⟩) m cap) L) (hi : i < L.length) (hj : j < 2) (hy : ∀ k, k < 2 → rcell y k = if k = j then v else rcell (rat L i) k) :
    Own (w.setCell ⟨g, i * 2 + j, none⟩ v) base (.slice (some ⟨g, 0, none⟩) m cap) (L.set i y) := by
  obtain ⟨a, c', e, _⟩ := h.form
  cases e
  have := (World.ownsRow.stored h (i * 2 + j) v).1
  rw [rcells_set L i j v y hi hj hy] at this
  unfold Own
  rw [List.length_set]
  exact this
theorem grown_below {w w' : World} {base Bb : Nat} {v : Value} {L : List Rw} (h : Own w base v L) (g : w.grownBy w' v.ownBlock) (hB : Bb ≤ base) (hs : Bb ≤ w.heap.size) : Below Bb w w' :=
  ⟨g.os, g.tape, g.output, g.size, fun k hk => g.block k (by omega) (fun e => by have := (World.ownsRow.lt h k e.symm).1; omega)⟩
/-- All cells of number i stored, one after the other. -/
theorem Own.whole {w : World} {base g m cap i : Nat} {L : List Rw} (h : Own w base (.slice (some ⟨g, 0, none⟩) m cap) L) (hi : i < L.length) (y : Rw) :
    Own (((w.setCell ⟨g, i * 2, none⟩ (sv y.1)).setCell ⟨g, i * 2 + 1, none⟩ (sv y.2))) base (.slice (some ⟨g, 0, none⟩) m cap) (L.set i y) := by
  obtain ⟨y0, y1⟩ := y
  have h1 := h.set (i := i) (j := 0) (v := sv y0) (y := (y0, (rat L i).2)) hi (by omega) (fun k hk => by
    match k, hk with
    | 0, _ => rfl
    | 1, _ => rfl)
  have h2 := h1.set (i := i) (j := 1) (v := sv y1) (y := (y0, y1)) (by rw [List.length_set]; exact hi) (by omega) (fun k hk => by
    rw [rat_set hi, if_pos rfl]
    match k, hk with
    | 0, _ => rfl
    | 1, _ => rfl)
  rw [List.set_set] at h2
  exact h2
theorem infoRw : (Tryz.prog.info? 40).map (fun i => (i.zero, i.size, i.bytes)) = some (some (.agg #[sv (none, 0, 0), sv (none, 0, 0)]), 2, 48) := by kernel_rfl
theorem row_cell {w : World} {g : Nat} {cur : Array Value} {T : TypeId} {f : Nat × Nat} (hg : w.heap[g]? = some (.cells cur T f)) (j : Nat) : w.cell? ⟨g, j, none⟩ = cur[j]? := by simp [World.cell?, hg]
theorem rcells_split (M : List Rw) (k : Nat) (hk : k ≤ M.length) : rcells M = rcells (M.take k) ++ rcells (M.drop k) ∧ (rcells (M.take k)).length = k * 2 := by
  refine ⟨by rw [← rcells_append, List.take_append_drop], ?_⟩
  rw [rcells_length, List.length_take, Nat.min_eq_left hk]
theorem rcells_take (M : List Rw) (k : Nat) (hk : k ≤ M.length) : rcells (M.take k) = (rcells M).take (k * 2) := by
  obtain ⟨e, l⟩ := rcells_split M k hk
  rw [e, ← l, List.take_left]
theorem rcells_drop (M : List Rw) (k : Nat) (hk : k ≤ M.length) : rcells (M.drop k) = (rcells M).drop (k * 2) := by
  obtain ⟨e, l⟩ := rcells_split M k hk
  rw [e, ← l, List.drop_left]
/-- A row of one's own, looked into. -/
theorem own_row {w : World} {base g m cap : Nat} {M : List Rw} (h : Own w base (.slice (some ⟨g, 0, none⟩) m cap) M) : ∃ cur, base ≤ g ∧ w.heap[g]? = some (.cells cur 40 (0, 0)) ∧ M.length ≤ cap ∧ cap ≤ maxLen ∧ cur.size = cap * 2 ∧ cur.toList.take (M.length * 2) = rcells M ∧ M.length = m := by
  obtain ⟨a', c', e, _⟩ := h.form
  have em : M.length = m := by cases e; rfl
  rcases h.2 with ⟨e', _⟩ | ⟨g', cap', cur, e', hb, hg, hn, hm, hs, ht⟩
  · cases e'
  · cases e'
    exact ⟨cur, hb, hg, hn, hm, hs, ht, rfl⟩
/-- A piece of a row is read. -/
theorem Own.piece {w : World} {base g m cap : Nat} {M : List Rw} (h : Own w base (.slice (some ⟨g, 0, none⟩) m cap) M) (k : Nat) (hk : k ≤ M.length) : ∀ j u, (rcells (M.drop k))[j]? = some u → w.cell? ((⟨g, k * 2, none⟩ : Addr).add j) = some u := by
  intro j u hj
  obtain ⟨cur, _, hg, _, _, hsz, htk, _⟩ := own_row h
  rw [rcells_drop M k hk, List.getElem?_drop, ← htk, List.getElem?_take] at hj
  rw [Go.WideShapes.add_plain, row_cell hg]
  split at hj
  · rw [← Array.getElem?_toList]; exact hj
  · cases hj
theorem Own.front {w : World} {base g m cap : Nat} {M : List Rw} (h : Own w base (.slice (some ⟨g, 0, none⟩) m cap) M) (k : Nat) (hk : k ≤ M.length) : ∀ j u, (rcells (M.take k))[j]? = some u → w.cell? ((⟨g, 0, none⟩ : Addr).add j) = some u := by
  intro j u hj
  obtain ⟨cur, _, hg, _, _, hsz, htk, _⟩ := own_row h
  rw [rcells_take M k hk, List.getElem?_take] at hj
  rw [Go.WideShapes.add_plain, row_cell hg, Nat.zero_add]
  split at hj
  · rw [← htk, List.getElem?_take] at hj
    split at hj
    · rw [← Array.getElem?_toList]; exact hj
    · cases hj
  · cases hj
theorem Own.some_form {w : World} {base : Nat} {v : Value} {M : List Rw} (h : Own w base v M) (hv : v ≠ .slice none 0 0) : ∃ g cap, v = .slice (some ⟨g, 0, none⟩) M.length cap ∧ M.length ≤ cap ∧ cap ≤ 9223372036854775807 ∧ base ≤ g ∧ g < w.heap.size := by
  obtain ⟨a, cap, rfl, hc, hm, hR, hna, hs⟩ := h.form
  cases a with
  | none =>
    have e := hna rfl
    subst e
    have : M.length = 0 := by omega
    rw [this] at hv
    exact absurd rfl hv
  | some x =>
    obtain ⟨g, rfl, h1, h2⟩ := hs x rfl
    exact ⟨g, cap, rfl, hc, hm, h1, h2⟩
/-- What is read is there to be appended. -/
theorem Rd.cells {w : World} {b off : Nat} {L : List Rw} (h : Rd w (some ⟨b, off, none⟩) L) : ∀ j u, (rcells L)[j]? = some u → w.cell? ((⟨b, off, none⟩ : Addr).add j) = some u := by
  intro j u hj
  have hlt : j < L.length * 2 := by rw [← rcells_length]; exact (List.getElem?_eq_some_iff.1 hj).1
  obtain ⟨b', o', e, c⟩ := h.cell (j / 2) (by omega)
  cases e
  have hc := c (j % 2) (by omega)
  have hg := rcells_get L (j / 2) (j % 2) (by omega) (by omega)
  rw [show j / 2 * 2 + j % 2 = j by omega] at hc hg
  rw [hg] at hj
  rw [Go.WideShapes.add_plain, hc]
  exact hj
/-- An append onto a row of one's own, as one step of a region that draws its order; what is not nil stays so. -/
theorem step_append {ops : Array Oper} {o : Oper} {a : Act} {w : World} {K : Act → World → Prop} {Q : Exit → Act → World → Prop} {E : Prop}
    (hg : o.guard = none) (s x : Operand) (hop : o.op = Op.call { callee := Callee.builtin Builtin.append, args := #[s, x], argTypes := #[64, 64] })
    (base : Nat) (v : Value) (M N : List Rw) (hs : a.eval s = v) (hown : Own w base v M) (ad : Addr) (m c : Nat) (hm : N.length = m) (hx : a.eval x = .slice (some ad) m c) (hc : ∀ j u, (rcells N)[j]? = some u → w.cell? (ad.add j) = some u)
    (hl : M.length + m ≤ 1000) (hb : base ≤ w.heap.size)
    (hK : ∀ v' w', Own w' base v' (M ++ N) → w.grownBy w' v.ownBlock → (v' = .slice none 0 0 ↔ v = .slice none 0 0 ∧ m = 0) → K (a.put o.dst v') w') :
    if Region.wanted o (yielded ops a.tmps) = true then Oper.wp Tryz.prog o a w K Q else E := by
  have hw : Region.wanted o (yielded ops a.tmps) = true := by simp [Region.wanted, hg]
  obtain ⟨i0, hi0, hz0, hz1, hz2⟩ := info_parts infoRw
  rw [if_pos hw]
  obtain ⟨v', w', hrun, r1, r2, r3⟩ := run_append_own (P := Tryz.prog) w base 64 o.type 40 i0 (.agg #[sv (none, 0, 0), sv (none, 0, 0)]) 2 48 Tryz.underlying64 hi0 hz0 hz1 hz2 rfl (by decide) v M.length (rcells M) hown ad m c (rcells N) (by rw [rcells_length, hm]) hc (rcells_one _) (by unfold maxLen; omega) (by omega) hb
  unfold Oper.wp
  simp [execOp, hop, resolve, invoke, builtin, hs, hx, hrun, Result.andThen]
  exact hK v' w' (Own.more (by rw [hm]; exact r1)) r2 r3
/-- An append of nil onto a row of one's own, as one step of a region that draws its order. -/
theorem step_append_none {ops : Array Oper} {o : Oper} {a : Act} {w : World} {K : Act → World → Prop} {Q : Exit → Act → World → Prop} {E : Prop}
    (hg : o.guard = none) (s x : Operand) (hop : o.op = Op.call { callee := Callee.builtin Builtin.append, args := #[s, x], argTypes := #[64, 64] })
    (base : Nat) (v : Value) (M : List Rw) (hs : a.eval s = v) (hown : Own w base v M) (hx : a.eval x = .slice none 0 0)
    (hK : K (a.put o.dst v) w) : if Region.wanted o (yielded ops a.tmps) = true then Oper.wp Tryz.prog o a w K Q else E := by
  have hw : Region.wanted o (yielded ops a.tmps) = true := by simp [Region.wanted, hg]
  obtain ⟨i0, hi0, hz0, hz1, hz2⟩ := info_parts infoRw
  rw [if_pos hw]
  have hrun := run_append_owned_none (P := Tryz.prog) (w := w) base 64 o.type 40 i0 2 Tryz.underlying64 hi0 v M.length (rcells M) hown
  unfold Oper.wp
  simp [execOp, hop, resolve, invoke, builtin, hs, hx, hrun, Result.andThen]
  exact hK
theorem grown_cell1 {w w' : World} {r : Option Nat} (k : w.grownBy w' r) {b o : Nat} {v : Value} (h : w.cell? ⟨b, o, none⟩ = some v) (hr : some b ≠ r) : w'.cell? ⟨b, o, none⟩ = some v := by
  rw [World.cell?_of_block (w := w) (k.block b (cell_block h) hr)]
  exact h
/-- The block that a slice owns; of none, one that is not there. -/
def ob (w : World) (v : Value) : Nat := v.ownBlock.getD w.heap.size
theorem Own.lo {w w' : World} {b b' : Nat} {u v : Value} {M L : List Rw} (hu : Own w b u M) (hv : Own w b' v L) (Y : Only (ob w v) w w') (hlt : ∀ g, u.ownBlock = some g → g < b') : Own w' b u M := by
  refine hu.only Y (.inr fun g hg => ?_)
  have h1 := hlt g hg
  have h2 := (World.ownsRow.lt hu g hg).2
  unfold ob
  cases hvb : v.ownBlock with
  | none => simp; omega
  | some x => have := (World.ownsRow.lt hv x hvb).1; simp; omega
theorem Own.hi {w w' : World} {b b' : Nat} {u v : Value} {M L : List Rw} (hu : Own w b u M) (hv : Own w b' v L) (Y : Only (ob w v) w w') (hlt : ∀ g, v.ownBlock = some g → g < b) : Own w' b u M := by
  refine hu.only Y (.inr fun g hg => ?_)
  have h2 := World.ownsRow.lt hu g hg
  unfold ob
  cases hvb : v.ownBlock with
  | none => simp; omega
  | some x => have := hlt x hvb; simp; omega
theorem Own.blk {w : World} {b : Nat} {v : Value} {L : List Rw} (hv : Own w b v L) {X : Nat} (hX : w.heap.size ≤ X) : ∀ g, v.ownBlock = some g → g < X := fun g hg => by
  have := (World.ownsRow.lt hv g hg).2; omega
theorem ob_below {W w w' : World} {b B : Nat} {v : Value} {L : List Rw} (k : Below B W w) (hv : Own w b v L) (Y : Only (ob w v) w w') (hb : B ≤ b) (hs : B ≤ w.heap.size) : Below B W w' := by
  refine k.trans (Y.below ?_ hs)
  unfold ob
  cases hvb : v.ownBlock with
  | none => simpa using hs
  | some x => have := (World.ownsRow.lt hv x hvb).1; simp; omega
theorem rat_map (m : Nat) (f : Nat → Rw) (i : Nat) (hi : i < m) : rat ((List.range m).map f) i = f i := by
  unfold rat
  rw [List.getD_eq_getElem?_getD, List.getElem?_map, List.getElem?_range hi]
  rfl
theorem fresh (w : World) (x : Rw) (T : TypeId) : ∀ j u, (rcells [x])[j]? = some u → (w.alloc (.cells (rc x) T)).cell? ((⟨w.heap.size, 0, none⟩ : Addr).add j) = some u := by
  intro j u hj
  match j, hj with
  | 0, hj => simp [rcells] at hj; subst hj; simp [Addr.add]
  | 1, hj => simp [rcells] at hj; subst hj; simp [Addr.add]
  | j + 2, hj => simp [rcells] at hj
end Go.Proofs.YtceddedlfdgbhaaGreatDoor.Vv
namespace Go.Proofs.YtceddedlfdgbhaaGreatDoor.Rp
open Go.ChangeShapes Go.WideShapes Go.ChangeAt Go.RowKit
open Go.Proofs.YtceddedlfdgbhaaGreatDoor.Vv (Sl sv hidIt)
set_option linter.unusedVariables false
def rat (L : List Rep) (i : Nat) : Rep := L.getD i ([], [])
theorem rat_at {L : List Rep} {i : Nat} (h : i < L.length) : rat L i = L[i] := by
  unfold rat
  rw [List.getD_eq_getElem?_getD, List.getElem?_eq_getElem h]
  rfl
theorem rat_mem {L : List Rep} {i : Nat} (h : i < L.length) : rat L i ∈ L := by rw [rat_at h]; exact List.getElem_mem h
theorem rat_set {L : List Rep} {i j : Nat} {x : Rep} (h : i < L.length) : rat (L.set i x) j = if i = j then x else rat L j := by
  unfold rat
  rw [List.getD_eq_getElem?_getD, List.getD_eq_getElem?_getD, List.getElem?_set]
  by_cases e : i = j
  · subst e; simp [h]
  · simp [e]
theorem rat_app {L M : List Rep} {i : Nat} (h : i < L.length) : rat (L ++ M) i = rat L i := by
  unfold rat
  rw [List.getD_eq_getElem?_getD, List.getD_eq_getElem?_getD, List.getElem?_append_left h]
theorem rat_last (L : List Rep) (x : Rep) : rat (L ++ [x]) L.length = x := by
  unfold rat
  rw [List.getD_eq_getElem?_getD, List.getElem?_append_right (Nat.le_refl _)]
  simp
theorem rat_take {L : List Rep} {k i : Nat} (h : i < k) : rat (L.take k) i = rat L i := by
  unfold rat
  rw [List.getD_eq_getElem?_getD, List.getD_eq_getElem?_getD, List.getElem?_take, if_pos h]
theorem take_rat {L : List Rep} {i : Nat} (h : i < L.length) : L.take (i + 1) = L.take i ++ [rat L i] := by
  rw [List.take_add_one, List.getElem?_eq_getElem h, rat_at h]
  rfl
theorem ext_rat {L M : List Rep} (h : L.length = M.length) (e : ∀ i, i < L.length → rat L i = rat M i) : L = M := by
  refine List.ext_getElem h (fun i h1 h2 => ?_)
  rw [← rat_at h1, ← rat_at h2]
  exact e i h1
theorem vat_app {L M : List Vv.Rw} {i : Nat} (h : i < L.length) : Vv.rat (L ++ M) i = Vv.rat L i := by
  unfold Vv.rat
  rw [List.getD_eq_getElem?_getD, List.getD_eq_getElem?_getD, List.getElem?_append_left h]
theorem vat_last (L : List Vv.Rw) (x : Vv.Rw) : Vv.rat (L ++ [x]) L.length = x := by
  unfold Vv.rat
  rw [List.getD_eq_getElem?_getD, List.getElem?_append_right (Nat.le_refl _)]
  simp
/-- A slice at address a, whose pairs of slices are C, reads as the Replicas L. -/
structure RdC (w : World) (a : Option Addr) (C : List Vv.Rw) (L : List Rep) : Prop where
  len : C.length = L.length
  row : Vv.Rd w a C
  bk : ∀ i, i < L.length → RdE w (Vv.rat C i).1 (rat L i).1
  mb : ∀ i, i < L.length → RdM w (Vv.rat C i).2 (rat L i).2
def Rd (w : World) (a : Option Addr) (L : List Rep) : Prop := ∃ C, RdC w a C L
theorem RdC.kept {w w' : World} {a : Option Addr} {C : List Vv.Rw} {L : List Rep} (h : RdC w a C L) (k : Below w.heap.size w w') : RdC w' a C L :=
  ⟨h.len, h.row.kept k, fun i hi => (h.bk i hi).kept k, fun i hi => (h.mb i hi).kept k⟩
theorem Rd.kept {w w' : World} {a : Option Addr} {L : List Rep} (h : Rd w a L) (k : Below w.heap.size w w') : Rd w' a L := by
  obtain ⟨C, h⟩ := h
  exact ⟨C, h.kept k⟩
theorem Rd.nil (w : World) (a : Option Addr) : Rd w a [] := ⟨[], rfl, Vv.Rd.nil _ _, fun i hi => absurd hi (Nat.not_lt_zero _), fun i hi => absurd hi (Nat.not_lt_zero _)⟩
/-- One of them: the two slices, and what they read as. -/
theorem Rd.one {w : World} {a : Option Addr} {L : List Rep} (h : Rd w a L) {i : Nat} (hi : i < L.length) : ∃ b off s t, a = some ⟨b, off, none⟩ ∧ w.cell? ⟨b, off + i * 2, none⟩ = some (sv s) ∧ w.cell? ⟨b, off + i * 2 + 1, none⟩ = some (sv t) ∧ RdE w s (rat L i).1 ∧ RdM w t (rat L i).2 := by
  obtain ⟨C, h⟩ := h
  obtain ⟨b, off, e, c0, c1⟩ := h.row.all (i := i) (by rw [h.len]; exact hi)
  exact ⟨b, off, _, _, e, c0, c1, h.bk i hi, h.mb i hi⟩
theorem Rd.addr {w : World} {a : Option Addr} {L : List Rep} (h : Rd w a L) (hn : 0 < L.length) : ∃ b off, a = some ⟨b, off, none⟩ := by
  obtain ⟨b, off, _, _, e, _⟩ := h.one hn
  exact ⟨b, off, e⟩
/-- A list of Replicas of the call's own, in blocks from lo up to hi. -/
structure OwnC (w : World) (lo hi : Nat) (v : Value) (C : List Vv.Rw) (L : List Rep) : Prop where
  len : C.length = L.length
  row : Vv.Own w lo v C
  blk : ∀ g, v.ownBlock = some g → g < hi
  bk : ∀ i, i < L.length → En.Own w lo (sv (Vv.rat C i).1) (rat L i).1
  bb : ∀ i, i < L.length → ∀ g, (sv (Vv.rat C i).1).ownBlock = some g → g < hi
  mb : ∀ i, i < L.length → Mm.Own w lo (sv (Vv.rat C i).2) (rat L i).2
  bm : ∀ i, i < L.length → ∀ g, (sv (Vv.rat C i).2).ownBlock = some g → g < hi
  db : ∀ i j, i < L.length → j < L.length → i ≠ j → ∀ g, (sv (Vv.rat C i).1).ownBlock = some g → (sv (Vv.rat C j).1).ownBlock ≠ some g
  dm : ∀ i j, i < L.length → j < L.length → i ≠ j → ∀ g, (sv (Vv.rat C i).2).ownBlock = some g → (sv (Vv.rat C j).2).ownBlock ≠ some g
  hi' : hi ≤ w.heap.size
  lo' : lo ≤ hi
def Own (w : World) (lo hi : Nat) (v : Value) (L : List Rep) : Prop := ∃ C, OwnC w lo hi v C L
theorem OwnC.rd {w : World} {lo hi : Nat} {v : Value} {C : List Vv.Rw} {L : List Rep} (h : OwnC w lo hi v C L) {a : Option Addr} {m cap : Nat} (e : v = .slice a m cap) : RdC w a C L := by
  obtain ⟨a', c', e', _, _, r, _⟩ := h.row.form
  rw [e] at e'
  obtain ⟨rfl, _, _⟩ := Value.slice.inj e'
  exact ⟨h.len, r, fun i hi => rdE_of (h.bk i hi), fun i hi => rdM_of (h.mb i hi)⟩
theorem Own.rd {w : World} {lo hi : Nat} {L : List Rep} {a : Option Addr} {m cap : Nat} (h : Own w lo hi (.slice a m cap) L) : Rd w a L := by
  obtain ⟨C, h⟩ := h
  exact ⟨C, h.rd rfl⟩
theorem Own.form {w : World} {lo hi : Nat} {v : Value} {L : List Rep} (h : Own w lo hi v L) : ∃ a cap, v = .slice a L.length cap ∧ L.length ≤ cap ∧ cap ≤ 9223372036854775807 ∧ (a = none → cap = 0) := by
  obtain ⟨C, h⟩ := h
  obtain ⟨a', c', e', h1, h2, _, h4, _⟩ := h.row.form
  rw [h.len] at e' h1
  exact ⟨a', c', e', h1, h2, h4⟩
theorem Own.formN {w : World} {lo hi m : Nat} {v : Value} {L : List Rep} (h : Own w lo hi v L) (hn : L.length = m) : ∃ a cap, v = .slice a m cap ∧ m ≤ cap ∧ cap ≤ 9223372036854775807 ∧ (a = none → cap = 0) := by
  subst hn
  exact h.form
theorem OwnC.kept {w w' : World} {lo hi : Nat} {v : Value} {C : List Vv.Rw} {L : List Rep} (h : OwnC w lo hi v C L) (k : Below w.heap.size w w') : OwnC w' lo hi v C L :=
  ⟨h.len, h.row.kept k, h.blk, fun i hi => (h.bk i hi).kept k, h.bb, fun i hi => (h.mb i hi).kept k, h.bm, h.db, h.dm, Nat.le_trans h.hi' k.size, h.lo'⟩
theorem Own.kept {w w' : World} {lo hi : Nat} {v : Value} {L : List Rep} (h : Own w lo hi v L) (k : Below w.heap.size w w') : Own w' lo hi v L := by
  obtain ⟨C, h⟩ := h
  exact ⟨C, h.kept k⟩
/-- What turns in other blocks leaves it. -/
theorem OwnC.apart {w w' : World} {lo hi lo' hi' : Nat} {v : Value} {C : List Vv.Rw} {L : List Rep} (h : OwnC w lo hi v C L) (Y : OnlyIn lo' hi' w w') (hd : hi ≤ lo' ∨ hi' ≤ lo) : OwnC w' lo hi v C L := by
  have go : ∀ (u : Value) (e s n : Nat) (xs : List Value), w.ownsRow lo e s u n xs → (∀ g, u.ownBlock = some g → g < hi) → w'.ownsRow lo e s u n xs := fun u e s n xs hu hb =>
    row_in hu Y (fun g hg => by have h1 := (World.ownsRow.lt hu g hg).1; have h2 := hb g hg; omega)
  exact ⟨h.len, go _ _ _ _ _ h.row h.blk, h.blk, fun i hi => go _ _ _ _ _ (h.bk i hi) (h.bb i hi), h.bb, fun i hi => go _ _ _ _ _ (h.mb i hi) (h.bm i hi), h.bm, h.db, h.dm, Nat.le_trans h.hi' Y.size, h.lo'⟩
theorem Own.apart {w w' : World} {lo hi lo' hi' : Nat} {v : Value} {L : List Rep} (h : Own w lo hi v L) (Y : OnlyIn lo' hi' w w') (hd : hi ≤ lo' ∨ hi' ≤ lo) : Own w' lo hi v L := by
  obtain ⟨C, h⟩ := h
  exact ⟨C, h.apart Y hd⟩
theorem Own.mono {w : World} {lo hi lo2 hi2 : Nat} {v : Value} {L : List Rep} (h : Own w lo hi v L) (h1 : lo2 ≤ lo) (h2 : hi ≤ hi2) (h3 : hi2 ≤ w.heap.size) : Own w lo2 hi2 v L := by
  obtain ⟨C, h⟩ := h
  exact ⟨C, h.len, h.row.mono h1, fun g hg => Nat.lt_of_lt_of_le (h.blk g hg) h2, fun i hi => (h.bk i hi).mono h1, fun i hi g hg => Nat.lt_of_lt_of_le (h.bb i hi g hg) h2, fun i hi => (h.mb i hi).mono h1, fun i hi g hg => Nat.lt_of_lt_of_le (h.bm i hi g hg) h2, h.db, h.dm, h3, by have := h.lo'; omega⟩
theorem Own.new (w : World) : Own (w.alloc (.cells #[] 40)) w.heap.size (w.heap.size + 1) (.slice (some ⟨w.heap.size, 0, none⟩) 0 0) [] :=
  ⟨[], rfl, Vv.Own.new w, fun g hg => by simp [Value.ownBlock] at hg; omega, fun i hi => absurd hi (Nat.not_lt_zero _), fun i hi => absurd hi (Nat.not_lt_zero _), fun i hi => absurd hi (Nat.not_lt_zero _), fun i hi => absurd hi (Nat.not_lt_zero _), fun i j hi => absurd hi (Nat.not_lt_zero _), fun i j hi => absurd hi (Nat.not_lt_zero _), by simp, by omega⟩
theorem Own.lo_le {w : World} {lo hi : Nat} {v : Value} {L : List Rep} (h : Own w lo hi v L) : lo ≤ hi ∧ hi ≤ w.heap.size := by
  obtain ⟨C, h⟩ := h
  exact ⟨h.lo', h.hi'⟩
theorem setTwo_only {w : World} {g o : Nat} {u v : Value} : Only g w ((w.setCell ⟨g, o, none⟩ u).setCell ⟨g, o + 1, none⟩ v) := ((Only.refl g w).setCell o u).setCell (o + 1) v
/-- Two slices, younger than all that is there, put in at place i. -/
theorem OwnC.put {w : World} {lo hi g m cap i : Nat} {C : List Vv.Rw} {L : List Rep} (h : OwnC w lo hi (.slice (some ⟨g, 0, none⟩) m cap) C L) (hi' : i < L.length) {s t : Sl} {r : Rep} (hs : En.Own w hi (sv s) r.1) (ht : Mm.Own w hi (sv t) r.2) :
    OwnC ((w.setCell ⟨g, i * 2, none⟩ (sv s)).setCell ⟨g, i * 2 + 1, none⟩ (sv t)) lo w.heap.size (.slice (some ⟨g, 0, none⟩) m cap) (C.set i (s, t)) (L.set i r) := by
  have hC : i < C.length := by rw [h.len]; exact hi'
  have Y := setTwo_only (w := w) (g := g) (o := i * 2) (u := sv s) (v := sv t)
  have sz : ((w.setCell ⟨g, i * 2, none⟩ (sv s)).setCell ⟨g, i * 2 + 1, none⟩ (sv t)).heap.size = w.heap.size := by simp [World.setCell]
  have hlo := h.lo'
  have apE : ∀ {b : Nat} {u : Value} {M : List En.Rw}, En.Own w b u M → ∀ x, u.ownBlock = some x → x ≠ g := fun hu x hx e => own_apart hu h.row (by decide) x hx (by rw [e]; rfl)
  have apM : ∀ {b : Nat} {u : Value} {M : List Mm.Rw}, Mm.Own w b u M → ∀ x, u.ownBlock = some x → x ≠ g := fun hu x hx e => own_apart hu h.row (by decide) x hx (by rw [e]; rfl)
  refine ⟨by rw [List.length_set, List.length_set]; exact h.len, h.row.whole hC (s, t), fun x hx => Nat.lt_of_lt_of_le (h.blk x hx) h.hi', fun j hj => ?_, fun j hj x hx => ?_, fun j hj => ?_, fun j hj x hx => ?_, fun j k hj hk hne x hx hy => ?_, fun j k hj hk hne x hx hy => ?_, by rw [sz]; exact Nat.le_refl _, Nat.le_trans hlo h.hi'⟩
  all_goals rw [List.length_set] at hj
  · rw [Vv.rat_set hC, rat_set hi']
    by_cases e : i = j
    · rw [if_pos e, if_pos e]
      exact (hs.mono hlo).only Y (.inr (apE hs))
    · rw [if_neg e, if_neg e]
      exact (h.bk j hj).only Y (.inr (apE (h.bk j hj)))
  · rw [Vv.rat_set hC] at hx
    by_cases e : i = j
    · rw [if_pos e] at hx
      exact (World.ownsRow.lt hs x hx).2
    · rw [if_neg e] at hx
      exact Nat.lt_of_lt_of_le (h.bb j hj x hx) h.hi'
  · rw [Vv.rat_set hC, rat_set hi']
    by_cases e : i = j
    · rw [if_pos e, if_pos e]
      exact (ht.mono hlo).only Y (.inr (apM ht))
    · rw [if_neg e, if_neg e]
      exact (h.mb j hj).only Y (.inr (apM (h.mb j hj)))
  · rw [Vv.rat_set hC] at hx
    by_cases e : i = j
    · rw [if_pos e] at hx
      exact (World.ownsRow.lt ht x hx).2
    · rw [if_neg e] at hx
      exact Nat.lt_of_lt_of_le (h.bm j hj x hx) h.hi'
  · rw [List.length_set] at hk
    rw [Vv.rat_set hC] at hx hy
    by_cases e : i = j
    · rw [if_pos e] at hx
      rw [if_neg (by omega)] at hy
      have h1 := (World.ownsRow.lt hs x hx).1
      have h2 := h.bb k hk x hy
      omega
    · rw [if_neg e] at hx
      by_cases e2 : i = k
      · rw [if_pos e2] at hy
        have h1 := (World.ownsRow.lt hs x hy).1
        have h2 := h.bb j hj x hx
        omega
      · rw [if_neg e2] at hy
        exact h.db j k hj hk hne x hx hy
  · rw [List.length_set] at hk
    rw [Vv.rat_set hC] at hx hy
    by_cases e : i = j
    · rw [if_pos e] at hx
      rw [if_neg (by omega)] at hy
      have h1 := (World.ownsRow.lt ht x hx).1
      have h2 := h.bm k hk x hy
      omega
    · rw [if_neg e] at hx
      by_cases e2 : i = k
      · rw [if_pos e2] at hy
        have h1 := (World.ownsRow.lt ht x hy).1
        have h2 := h.bm j hj x hx
        omega
      · rw [if_neg e2] at hy
        exact h.dm j k hj hk hne x hx hy
theorem Own.put {w : World} {lo hi g m cap i : Nat} {L : List Rep} (h : Own w lo hi (.slice (some ⟨g, 0, none⟩) m cap) L) (hi' : i < L.length) {s t : Sl} {r : Rep} (hs : En.Own w hi (sv s) r.1) (ht : Mm.Own w hi (sv t) r.2) :
    Own ((w.setCell ⟨g, i * 2, none⟩ (sv s)).setCell ⟨g, i * 2 + 1, none⟩ (sv t)) lo w.heap.size (.slice (some ⟨g, 0, none⟩) m cap) (L.set i r) := by
  obtain ⟨C, h⟩ := h
  exact ⟨_, h.put hi' hs ht⟩
/-- What is read and written at place i. -/
theorem Own.cells {w : World} {lo hi g m cap i : Nat} {L : List Rep} (h : Own w lo hi (.slice (some ⟨g, 0, none⟩) m cap) L) (hi' : i < L.length) : ∃ s t : Sl, w.cell? ⟨g, i * 2, none⟩ = some (sv s) ∧ w.cell? ⟨g, i * 2 + 1, none⟩ = some (sv t) ∧ w.frozen? ⟨g, i * 2, none⟩ = false ∧ w.frozen? ⟨g, i * 2 + 1, none⟩ = false ∧ En.Own w lo (sv s) (rat L i).1 ∧ Mm.Own w lo (sv t) (rat L i).2 := by
  obtain ⟨C, h⟩ := h
  have hC : i < C.length := by rw [h.len]; exact hi'
  have c0 := h.row.at hC (j := 0) (by omega)
  have c1 := h.row.at hC (j := 1) (by omega)
  simp only [Vv.rcell, Nat.add_zero] at c0 c1
  exact ⟨_, _, c0, c1, h.row.free _, h.row.free _, h.bk i hi', h.mb i hi'⟩
theorem Own.grow {w : World} {lo hi : Nat} {v : Value} {L : List Rep} (h : Own w lo hi v L) : Own w lo w.heap.size v L := h.mono (Nat.le_refl _) h.lo_le.2 (Nat.le_refl _)
/-- A row that is made: nothing in any place. -/
theorem Own.made {w : World} {lo m : Nat} {v : Value} (h : Vv.Own w lo v (List.replicate m ((none, 0, 0), (none, 0, 0)))) (hl : lo ≤ w.heap.size) : Own w lo w.heap.size v (List.replicate m ([], [])) := by
  have ev : ∀ i, Vv.rat (List.replicate m (((none, 0, 0), (none, 0, 0)) : Vv.Rw)) i = ((none, 0, 0), (none, 0, 0)) := fun i => by
    unfold Vv.rat
    rw [List.getD_eq_getElem?_getD, List.getElem?_replicate]
    split <;> rfl
  have er : ∀ i, rat (List.replicate m (([], []) : Rep)) i = ([], []) := fun i => by
    unfold rat
    rw [List.getD_eq_getElem?_getD, List.getElem?_replicate]
    split <;> rfl
  refine ⟨_, by simp, h, fun g hg => (World.ownsRow.lt h g hg).2, fun i _ => by rw [ev, er]; exact En.Own.ofNil _ _, fun i _ g hg => ?_, fun i _ => by rw [ev, er]; exact Mm.Own.ofNil _ _, fun i _ g hg => ?_, fun i j _ _ _ g hg => ?_, fun i j _ _ _ g hg => ?_, Nat.le_refl _, hl⟩
  all_goals (rw [ev] at hg; cases hg)
/-- What only one row has grown by leaves another one. -/
theorem row_grown {w w' : World} {b b' e e' s s' n n' : Nat} {u v : Value} {xs ys : List Value} (hu : w.ownsRow b e s u n xs) (hv : w.ownsRow b' e' s' v n' ys) (g : w.grownBy w' v.ownBlock) (hd : ∀ x, u.ownBlock = some x → v.ownBlock ≠ some x) : w'.ownsRow b e s u n xs :=
  World.ownsRow.kept hu g (by
    cases hub : u.ownBlock with
    | none => exact .inl rfl
    | some x => exact .inr (fun e => hd x hub e.symm))
/-- One more, younger than all that is there. -/
theorem OwnC.more {w w' : World} {lo hi N : Nat} {v v' : Value} {C : List Vv.Rw} {L : List Rep} (h : OwnC w lo hi v C L) {s t : Sl} {r : Rep} (hv' : Vv.Own w' lo v' (C ++ [(s, t)])) (g : w.grownBy w' v.ownBlock) (hs : En.Own w N (sv s) r.1) (ht : Mm.Own w N (sv t) r.2) (hN : hi ≤ N) : OwnC w' lo w'.heap.size v' (C ++ [(s, t)]) (L ++ [r]) := by
  have hlo := h.lo'
  have sz := g.size
  have E : ∀ {b : Nat} {u : Value} {M : List En.Rw}, En.Own w b u M → En.Own w' b u M := fun hu => row_grown hu h.row g (own_apart hu h.row (by decide))
  have M : ∀ {b : Nat} {u : Value} {M : List Mm.Rw}, Mm.Own w b u M → Mm.Own w' b u M := fun hu => row_grown hu h.row g (own_apart hu h.row (by decide))
  have cs : ∀ j, j < (L ++ [r]).length → (j < L.length ∧ Vv.rat (C ++ [(s, t)]) j = Vv.rat C j ∧ rat (L ++ [r]) j = rat L j) ∨ (j = L.length ∧ Vv.rat (C ++ [(s, t)]) j = (s, t) ∧ rat (L ++ [r]) j = r) := fun j hj => by
    rw [List.length_append, List.length_singleton] at hj
    by_cases q : j < L.length
    · exact .inl ⟨q, vat_app (by rw [h.len]; exact q), rat_app q⟩
    · obtain rfl : j = L.length := by omega
      exact .inr ⟨rfl, by rw [← h.len]; exact vat_last C (s, t), rat_last L r⟩
  refine ⟨by rw [List.length_append, List.length_append, h.len]; rfl, hv', fun x hx => (World.ownsRow.lt hv' x hx).2, fun j hj => ?_, fun j hj x hx => ?_, fun j hj => ?_, fun j hj x hx => ?_, fun j k hj hk hne x hx hy => ?_, fun j k hj hk hne x hx hy => ?_, Nat.le_refl _, Nat.le_trans hlo (Nat.le_trans h.hi' sz)⟩
  · rcases cs j hj with ⟨q, e1, e2⟩ | ⟨q, e1, e2⟩
    · rw [e1, e2]; exact E (h.bk j q)
    · rw [e1, e2]; exact (E hs).mono (by omega)
  · rcases cs j hj with ⟨q, e1, e2⟩ | ⟨q, e1, e2⟩
    · rw [e1] at hx; exact Nat.lt_of_lt_of_le (h.bb j q x hx) (Nat.le_trans h.hi' sz)
    · rw [e1] at hx; exact Nat.lt_of_lt_of_le (World.ownsRow.lt hs x hx).2 sz
  · rcases cs j hj with ⟨q, e1, e2⟩ | ⟨q, e1, e2⟩
    · rw [e1, e2]; exact M (h.mb j q)
    · rw [e1, e2]; exact (M ht).mono (by omega)
  · rcases cs j hj with ⟨q, e1, e2⟩ | ⟨q, e1, e2⟩
    · rw [e1] at hx; exact Nat.lt_of_lt_of_le (h.bm j q x hx) (Nat.le_trans h.hi' sz)
    · rw [e1] at hx; exact Nat.lt_of_lt_of_le (World.ownsRow.lt ht x hx).2 sz
  · rcases cs j hj with ⟨q, e1, e2⟩ | ⟨q, e1, e2⟩ <;> rcases cs k hk with ⟨q', e1', e2'⟩ | ⟨q', e1', e2'⟩ <;> rw [e1] at hx <;> rw [e1'] at hy
    · exact h.db j k q q' hne x hx hy
    · have a1 := h.bb j q x hx; have a2 := (World.ownsRow.lt hs x hy).1; omega
    · have a1 := h.bb k q' x hy; have a2 := (World.ownsRow.lt hs x hx).1; omega
    · omega
  · rcases cs j hj with ⟨q, e1, e2⟩ | ⟨q, e1, e2⟩ <;> rcases cs k hk with ⟨q', e1', e2'⟩ | ⟨q', e1', e2'⟩ <;> rw [e1] at hx <;> rw [e1'] at hy
    · exact h.dm j k q q' hne x hx hy
    · have a1 := h.bm j q x hx; have a2 := (World.ownsRow.lt ht x hy).1; omega
    · have a1 := h.bm k q' x hy; have a2 := (World.ownsRow.lt ht x hx).1; omega
    · omega
end Go.Proofs.YtceddedlfdgbhaaGreatDoor.Rp
