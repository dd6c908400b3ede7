/-
  A new Cluster in plain words; NewCluster of the specification. (Written by wip/mkNc.py.)
  NewCluster of the program. (Written by wip/mkNc.py.)
  toNodeS of the laws. (Written by wip/mkNs.py.)
  szCluster, eqCluster, toCluster of the laws. (Written by wip/mkKc.py.)
-/
import Derived.Test.YtgbnkkjjgodilaaBun7
import Derived.Test.YtgbnkkjjgodilaaBun8
import Derived.Test.YtgbnkkjjgodilaaBun5
import Derived.Test.YtgbnkkjjgodilaaBun4
import Derived.Test.YtgbnkkjjgodilaaBun3
namespace Go.Proofs.Ytgbnkkjjgodilaa.Kc
open Go.ChangeShapes Go.WideShapes Go.ChangeAt Go.RowKit
open Go.Proofs.Ytgbnkkjjgodilaa.Vv (Sl sv hidIt)
open Go.Proofs.Ytgbnkkjjgodilaa.Nd (Nw RdN OwnN ShortN SmallN)
open Go.Proofs.Ytgbnkkjjgodilaa.Nn (on)
open Go.Proofs.Ytgbnkkjjgodilaa.Ns (nod)
open Go.Proofs.Ytgbnkkjjgodilaa.Rp (OnlyIn own_apart row_in row_other)
set_option linter.unusedVariables false
theorem infoK : (Try.prog.info? 2).map (fun i => (i.zero, i.size, i.bytes)) = some (some (.int .i64 0), 1, 8) := by kernel_rfl
theorem zeros_is (n : Nat) : Iv.icells (List.replicate n 0) = (madeCells #[.int .i64 0] n).toList := by rw [toList_madeCells_one, Iv.icells, List.map_replicate]
/-- A new Node of a new Cluster. -/
def mkN (s : ByteArray) (o : Int) : Nw := ⟨[], [], (Ro.newR 7 o 0).1.1, (Ro.newR 7 o 0).1.2.1, (Ro.newR 7 o 0).1.2.2.1, (Ro.newR 7 o 0).1.2.2.2.1, (Ro.newR 7 o 0).1.2.2.2.2, [], [], s⟩
def newL (s : ByteArray) (m : Nat) : List Nw := (List.range m).map (fun i : Nat => mkN s (8 + (i : Int)))
theorem newL_len (s : ByteArray) (m : Nat) : (newL s m).length = m := by simp [newL]
theorem newL_succ (s : ByteArray) (m : Nat) : newL s (m + 1) = newL s m ++ [mkN s (8 + (m : Int))] := by simp [newL, List.range_succ]
/-- A new Cluster in plain words. -/
def newC (s : ByteArray) (n : Int) : Cw × Bool := if (Nd.apexB s && Ro.inB n 1 4) = true then (⟨0, newL s n.toNat, List.replicate n.toNat 0⟩, true) else (⟨0, [], []⟩, false)
theorem new_ok {s : ByteArray} {i : Nat} (hi : i < 4) (ha : Nd.apexB s = true) : Nn.newN s 7 (8 + (i : Int)) = (((Ro.newR 7 (8 + (i : Int)) 0).1, s), true) := by
  have h : (Ro.newR 7 (8 + (i : Int)) 0).2 = true := by
    match i, hi with
    | 0, _ => decide
    | 1, _ => decide
    | 2, _ => decide
    | 3, _ => decide
  unfold Nn.newN
  rw [h, ha]
  rfl
theorem new_no {s : ByteArray} {o : Int} (ha : Nd.apexB s = false) : Nn.newN s 7 o = (((0, 0, 0, 0, 0), ⟨#[]⟩), false) := by
  unfold Nn.newN
  rw [ha, Bool.and_false]
  rfl
def NcP (x : Cw × Bool) (w : World) (en : Ending) (w' : World) : Prop := ∃ n k : Sl, en = .returned (.tuple #[kv x.1 n k, .bool x.2]) ∧ OwnK w' w.heap.size w'.heap.size x.1 n k ∧ Below w.heap.size w w'
theorem NcP.out {x : Cw × Bool} {w w' : World} {en : Ending} (h : NcP x w en w') : ∃ n k : Sl, en = .returned (.tuple #[kv x.1 n k, .bool x.2]) ∧ OwnK w' w.heap.size w'.heap.size x.1 n k ∧ Below w.heap.size w w' := h
theorem NcP.of {x : Cw × Bool} {w w' : World} {en : Ending} {n k : Sl} (h : en = .returned (.tuple #[kv x.1 n k, .bool x.2])) (h1 : OwnK w' w.heap.size w'.heap.size x.1 n k) (h2 : Below w.heap.size w w') : NcP x w en w' := ⟨n, k, h, h1, h2⟩
theorem NcP.zero {w w' : World} {en : Ending} (h : en = .returned (.tuple #[.agg #[.int .i64 0, .slice none 0 0, .slice none 0 0], .bool false])) (h2 : Below w.heap.size w w') : NcP (⟨0, [], []⟩, false) w en w' :=
  ⟨(none, 0, 0), (none, 0, 0), h, ⟨Ns.Own.ofNil w' h2.size (Nat.le_refl _), World.ownsRow_nil _ _ _ _, fun g hg => by cases hg⟩, h2⟩
/-- A list of Nodes of the call's own, in blocks from lo on. -/
def OwnX (W : World) (lo : Nat) (v : Value) (L : List Nw) : Prop := ∃ hi, Ns.Own W lo hi v L
theorem OwnX.out {W : World} {lo : Nat} {v : Value} {L : List Nw} (h : OwnX W lo v L) : ∃ hi C, Ns.OwnC W lo hi v C L := by
  obtain ⟨hi, C, c⟩ := h
  exact ⟨hi, C, c⟩
theorem OwnX.kept {w w' : World} {lo : Nat} {v : Value} {L : List Nw} (h : OwnX w lo v L) (k : Below w.heap.size w w') : OwnX w' lo v L := by
  obtain ⟨hi, h⟩ := h
  exact ⟨hi, h.kept k⟩
theorem OwnX.low {w w' : World} {lo c : Nat} {v : Value} {L : List Nw} (h : OwnX w lo v L) (k : Only c w w') (hc : c < lo) : OwnX w' lo v L := by
  obtain ⟨hi, h⟩ := h
  exact ⟨hi, h.apart (OnlyIn.of_only (lo := c) (hi := c + 1) k (.inr ⟨Nat.le_refl _, Nat.lt_succ_self _⟩)) (.inr hc)⟩
/-- A row of numbers that grows leaves Nodes. -/
theorem grown_ints {w w' : World} {lo hi b n : Nat} {v u : Value} {C : List Nv.Rw} {L : List Nw} {xs : List Value} (h : Ns.OwnC w lo hi v C L) (o : w.ownsRow b 2 1 u n xs) (k : w.grownBy w' u.ownBlock) : Ns.OwnC w' lo hi v C L :=
  ⟨h.len, Rg.row_grown h.row k (own_apart h.row o (by decide)), h.blk, h.fl, fun i hi => ⟨Rg.row_grown (h.nd i hi).e k (own_apart (h.nd i hi).e o (by decide)), Rg.row_grown (h.nd i hi).m k (own_apart (h.nd i hi).m o (by decide)), Rg.row_grown (h.nd i hi).b k (own_apart (h.nd i hi).b o (by decide)), Rg.row_grown (h.nd i hi).g k (own_apart (h.nd i hi).g o (by decide))⟩, h.bd, h.dj, Nat.le_trans h.hi' k.size, h.lo'⟩
theorem OwnX.ints {w w' : World} {lo b n : Nat} {v u : Value} {L : List Nw} {xs : List Value} (h : OwnX w lo v L) (o : w.ownsRow b 2 1 u n xs) (k : w.grownBy w' u.ownBlock) : OwnX w' lo v L := by
  obtain ⟨hi, C, h⟩ := h.out
  exact ⟨hi, C, grown_ints h o k⟩
theorem OwnX.form {w : World} {lo : Nat} {v : Value} {L : List Nw} (h : OwnX w lo v L) : ∃ a cap, v = .slice a L.length cap := by
  obtain ⟨hi, h⟩ := h
  obtain ⟨a, c, e, _⟩ := h.form
  exact ⟨a, c, e⟩
theorem OwnX.done {w : World} {lo base : Nat} {v : Value} {L : List Nw} (h : OwnX w lo v L) (hb : base ≤ lo) : Ns.Own w base w.heap.size v L := by
  obtain ⟨hi, h⟩ := h
  exact h.grow.mono hb (Nat.le_refl _) (Nat.le_refl _)
set_option maxRecDepth 100000 in
set_option maxHeartbeats 16000000 in
theorem spec_NewCluster (s : ByteArray) (n : Int) (w : World) : Calls Try.prog 4 #[.string s, .int .i64 n] w fun en w' => NcP (newC s n) w en w' := by
  obtain ⟨j0, hj0, hy0, hy1, hy2⟩ := info_parts infoK
  have C1 := hidIt (fun W => Nd.spec_l17Apex s W)
  have C2 := hidIt (fun W => Ro.spec_l1In n 1 4 W)
  have CN := hidIt (fun (o : Int) W => (Nn.spec_NewNodeQ s 7 o W).mono (fun e w' h => h.out))
  obtain ⟨i0, hi0, hz0, hz1, hz2⟩ := info_parts Nv.infoRw
  have N1 : Hid ((Nd.apexB s && Ro.inB n 1 4) = false → newC s n = (⟨0, [], []⟩, false)) := hidIt (fun h => by unfold newC; rw [h]; rfl)
  have N2 : Hid ((Nd.apexB s && Ro.inB n 1 4) = true → newC s n = (⟨0, newL s n.toNat, List.replicate n.toNat 0⟩, true)) := hidIt (fun h => by unfold newC; rw [h]; rfl)
  have HI : Hid (Ro.inB n 1 4 = (decide (1 ≤ n) && decide (n ≤ 4))) := hidIt rfl
  have NW : Hid (∀ i : Nat, i < 4 → Nd.apexB s = true → Nn.newN s 7 (8 + (i : Int)) = (((Ro.newR 7 (8 + (i : Int)) 0).1, s), true)) := hidIt (fun i hi ha => new_ok hi ha)
  have NV : Hid (∀ o : Int, Nd.apexB s = false → Nn.newN s 7 o = (((0, 0, 0, 0, 0), ⟨#[]⟩), false)) := hidIt (fun o ha => new_no ha)
  generalize newC s n = r at N1 N2 ⊢
  generalize Nd.apexB s = k1 at C1 N1 N2 NW NV
  generalize Ro.inB n 1 4 = k2 at C2 N1 N2 HI
  have BR := hidIt (Bo.Box.new w #[.int .i64 0, .slice none 0 0, .slice none 0 0] 25)
  have HB := hidIt ((Below.refl w.heap.size w).alloc (Nat.le_refl _) (.cells #[.int .i64 0, .slice none 0 0, .slice none 0 0] 25))
  go_enter Try.func4, Try.ntmps4
  go_wp2_with (fail)
  generalize w.alloc (.cells #[.int .i64 0, .slice none 0 0, .slice none 0 0] 25) = W0 at BR HB ⊢
  refine (C1.out _).mono ?_
  rintro en w1 ⟨rfl, k⟩
  replace BR := hidIt (BR.out.kept k)
  replace HB := hidIt (on HB.out k)
  clear k
  cases k1 with
  | false =>
    have er := N1.out rfl
    subst er
    have c0z := BR.out.c 0 (v := .int .i64 0) rfl
    have c1z := BR.out.c 1 (v := .slice none 0 0) rfl
    have c2z := BR.out.c 2 (v := .slice none 0 0) rfl
    have z0z := BR.out.fr 0
    have z1z := BR.out.fr 1
    have z2z := BR.out.fr 2
    have RZ := hidIt ((((BR.out).put (c' := #[.int .i64 0, .slice none 0 0, .slice none 0 0]) 0 (.int .i64 0) (by simp) rfl).put (c' := #[.int .i64 0, .slice none 0 0, .slice none 0 0]) 1 (.slice none 0 0) (by simp) rfl).put (c' := #[.int .i64 0, .slice none 0 0, .slice none 0 0]) 2 (.slice none 0 0) (by simp) rfl)
    have HZ := hidIt ((((HB.out).setCell (p := ⟨w.heap.size, 0, none⟩) (Nat.le_refl _) (.int .i64 0)).setCell (p := ⟨w.heap.size, 1, none⟩) (Nat.le_refl _) (.slice none 0 0)).setCell (p := ⟨w.heap.size, 2, none⟩) (Nat.le_refl _) (.slice none 0 0))
    go_wp2_with (fail)
    generalize (((w1).setCell ⟨w.heap.size, 0, none⟩ (.int .i64 0)).setCell ⟨w.heap.size, 1, none⟩ (.slice none 0 0)).setCell ⟨w.heap.size, 2, none⟩ (.slice none 0 0) = wz at RZ HZ ⊢
    clear c0z z0z c1z z1z c2z z2z
    have q0c := RZ.out.c 0 (v := .int .i64 0) rfl
    have q1c := RZ.out.c 1 (v := .slice none 0 0) rfl
    have q2c := RZ.out.c 2 (v := .slice none 0 0) rfl
    refine bodyPost_ret (v := .tuple #[.agg #[.int .i64 0, .slice none 0 0, .slice none 0 0], .bool false]) (by simp [results, Try.results4, go_sem, q0c, q1c, q2c]) rfl ?_
    exact NcP.zero rfl HZ.out
  | true =>
  go_wp2_with (fail)
  refine (C2.out _).mono ?_
  rintro en w2 ⟨rfl, ew⟩
  have ew2 := ew.symm
  subst ew2
  clear ew
  cases k2 with
  | false =>
    have er := N1.out rfl
    subst er
    have c0z := BR.out.c 0 (v := .int .i64 0) rfl
    have c1z := BR.out.c 1 (v := .slice none 0 0) rfl
    have c2z := BR.out.c 2 (v := .slice none 0 0) rfl
    have z0z := BR.out.fr 0
    have z1z := BR.out.fr 1
    have z2z := BR.out.fr 2
    have RZ := hidIt ((((BR.out).put (c' := #[.int .i64 0, .slice none 0 0, .slice none 0 0]) 0 (.int .i64 0) (by simp) rfl).put (c' := #[.int .i64 0, .slice none 0 0, .slice none 0 0]) 1 (.slice none 0 0) (by simp) rfl).put (c' := #[.int .i64 0, .slice none 0 0, .slice none 0 0]) 2 (.slice none 0 0) (by simp) rfl)
    have HZ := hidIt ((((HB.out).setCell (p := ⟨w.heap.size, 0, none⟩) (Nat.le_refl _) (.int .i64 0)).setCell (p := ⟨w.heap.size, 1, none⟩) (Nat.le_refl _) (.slice none 0 0)).setCell (p := ⟨w.heap.size, 2, none⟩) (Nat.le_refl _) (.slice none 0 0))
    go_wp2_with (fail)
    generalize (((w1).setCell ⟨w.heap.size, 0, none⟩ (.int .i64 0)).setCell ⟨w.heap.size, 1, none⟩ (.slice none 0 0)).setCell ⟨w.heap.size, 2, none⟩ (.slice none 0 0) = wz at RZ HZ ⊢
    clear c0z z0z c1z z1z c2z z2z
    have q0c := RZ.out.c 0 (v := .int .i64 0) rfl
    have q1c := RZ.out.c 1 (v := .slice none 0 0) rfl
    have q2c := RZ.out.c 2 (v := .slice none 0 0) rfl
    refine bodyPost_ret (v := .tuple #[.agg #[.int .i64 0, .slice none 0 0, .slice none 0 0], .bool false]) (by simp [results, Try.results4, go_sem, q0c, q1c, q2c]) rfl ?_
    exact NcP.zero rfl HZ.out
  | true =>
  have er := N2.out rfl
  have hn : 1 ≤ n ∧ n ≤ 4 := by
    have := HI.out
    simp only [Bool.true_eq, Bool.and_eq_true, decide_eq_true_eq] at this
    exact this
  obtain ⟨m, rfl⟩ : ∃ m : Nat, n = m := ⟨n.toNat, by omega⟩
  have hm1 : 1 ≤ m := by omega
  have hm4 : m ≤ 4 := by omega
  rw [Int.toNat_natCast] at er
  subst er
  clear hn HI N1 N2
  have hlo : w.heap.size < w1.heap.size := BR.out.lt
  go_wp2_with (first
    | (at_make; refine wpList_make_full _ rfl _ _ 23 rfl w1.heap.size 2 j0 (.int .i64 0) 1 Try.underlying23 hj0 hy0 hy1 _ _ _ _ m rfl rfl (by omega) (by omega) (by rw [hy2]; omega) (by unfold maxLen; omega) (Nat.le_refl _) ?_)
    | fail)
  intro w3 hown hgrow
  have HK3 : Hid (Iv.Own w3 w1.heap.size (.slice (some ⟨w1.heap.size, 0, none⟩) m m) (List.replicate m 0)) := by
    refine hidIt ?_
    unfold Iv.Own
    rw [List.length_replicate, zeros_is]
    exact hown
  have kk : Below w1.heap.size w1 w3 := (Below.refl w1.heap.size w1).grown hgrow (Nat.le_refl _) (fun k hk => by cases hk)
  have HB3 := hidIt (on HB.out kk)
  have BR3 := hidIt (BR.out.kept kk)
  have hlt3 : w1.heap.size < w3.heap.size := (World.ownsRow.lt HK3.out _ rfl).2
  clear hown hgrow kk BR HB
  have HB4 := hidIt (HB3.out.alloc HB3.out.size (.cells #[.int .i64 0, .slice none 0 0, .slice (some ⟨w1.heap.size, 0, none⟩) m m] 25))
  have BR4 := hidIt (BR3.out.alloc (.cells #[.int .i64 0, .slice none 0 0, .slice (some ⟨w1.heap.size, 0, none⟩) m m] 25))
  have HK4 := hidIt (HK3.out.alloc (.cells #[.int .i64 0, .slice none 0 0, .slice (some ⟨w1.heap.size, 0, none⟩) m m] 25))
  have BX4 := hidIt (Bo.Box.new w3 #[.int .i64 0, .slice none 0 0, .slice (some ⟨w1.heap.size, 0, none⟩) m m] 25)
  have hsz4 : (w3.alloc (.cells #[.int .i64 0, .slice none 0 0, .slice (some ⟨w1.heap.size, 0, none⟩) m m] 25)).heap.size = w3.heap.size + 1 := by simp
  clear HB3 BR3 HK3
  go_wp2_with (fail)
  generalize w3.alloc (.cells #[.int .i64 0, .slice none 0 0, .slice (some ⟨w1.heap.size, 0, none⟩) m m] 25) = W4 at HB4 BR4 HK4 BX4 hsz4 ⊢
  have HS4 := hidIt hsz4
  clear hsz4
  go_loopw [7] (fun y wx => ∃ (i : Nat) (va : Option Addr) (vc : Nat), y = .int .i64 i ∧ i ≤ m ∧ Hid (Bo.Box wx w.heap.size #[.int .i64 0, .slice none 0 0, .slice none 0 0]) ∧ Hid (Bo.Box wx w3.heap.size #[.int .i64 0, .slice va i vc, .slice (some ⟨w1.heap.size, 0, none⟩) m m]) ∧ Hid (OwnX wx (w3.heap.size + 1) (.slice va i vc) (newL s i)) ∧ Hid (Iv.Own wx w1.heap.size (.slice (some ⟨w1.heap.size, 0, none⟩) m m) (List.replicate m 0)) ∧ Hid (Below w.heap.size w wx)) (fun y _ => (m - intOf y).toNat)
  case atStart => exact ⟨0, none, 0, rfl, by omega, BR4, BX4, hidIt ⟨W4.heap.size, Ns.Own.ofNil W4 (by have := HS4.out; omega) (Nat.le_refl _)⟩, HK4, HB4⟩
  case round =>
    obtain ⟨i, va, vc, rfl, hi, BR, BX, OX, OK, HBx⟩ := hrel
    clear BR4 BX4 HK4 HB4
    by_cases hin : i < m
    · have hin' : (i : Int) < (m : Int) := by omega
      have CNi := hidIt (fun W => CN.out (8 + (i : Int)) W)
      rw [NW.out i (by omega) (by first | rfl | trivial)] at CNi
      simp only at CNi
      have hx : mkN s (8 + (i : Int)) = ⟨[], [], (Ro.newR 7 (8 + (i : Int)) 0).1.1, (Ro.newR 7 (8 + (i : Int)) 0).1.2.1, (Ro.newR 7 (8 + (i : Int)) 0).1.2.2.1, (Ro.newR 7 (8 + (i : Int)) 0).1.2.2.2.1, (Ro.newR 7 (8 + (i : Int)) 0).1.2.2.2.2, [], [], s⟩ := rfl
      obtain ⟨ro, HRO⟩ : ∃ ro, Hid ((Ro.newR 7 (8 + (i : Int)) 0).1 = ro) := ⟨_, hidIt rfl⟩
      rw [HRO.out] at CNi hx
      obtain ⟨r1, r2, r3, r4, r5⟩ := ro
      simp only at CNi hx
      have HX := hidIt hx
      clear hx HRO
      go_wp2_with (fail)
      refine (CNi.out _).mono ?_
      rintro en w5 ⟨rfl, k5⟩
      have hsz5 := k5.size
      have kA : Below wr.heap.size wr ((w5.alloc (.cells #[.slice none 0 0, .slice none 0 0, .int .i64 r1, .int .i64 r2, .int .i64 r3, .int .i64 r4, .int .i64 r5, .slice none 0 0, .slice none 0 0, .string s] 42)).alloc (.cells #[.slice none 0 0, .slice none 0 0, .int .i64 r1, .int .i64 r2, .int .i64 r3, .int .i64 r4, .int .i64 r5, .slice none 0 0, .slice none 0 0, .string s] 42)) := ((k5.alloc k5.size _).alloc (by simp; omega) _)
      have kB : Below wr.heap.size wr (w5.alloc (.cells #[.slice none 0 0, .slice none 0 0, .int .i64 r1, .int .i64 r2, .int .i64 r3, .int .i64 r4, .int .i64 r5, .slice none 0 0, .slice none 0 0, .string s] 42)) := k5.alloc k5.size _
      obtain ⟨hi2, C, oc0⟩ := OX.out.out
      have oc := oc0.kept kA
      have bxB := BX.out.kept kB
      have d1 := bxB.c 1 (v := .slice va i vc) rfl
      have BXA := hidIt (BX.out.kept kA)
      have BRA := hidIt (BR.out.kept kA)
      have OKA := hidIt (OK.out.kept kA)
      have HBA := hidIt (on HBx.out kA)
      have OC := hidIt oc
      have hlen : C.length = i := oc.len.trans (newL_len s i)
      have HLn := hidIt hlen
      have HRow : Hid (World.ownsRow ((w5.alloc (.cells #[.slice none 0 0, .slice none 0 0, .int .i64 r1, .int .i64 r2, .int .i64 r3, .int .i64 r4, .int .i64 r5, .slice none 0 0, .slice none 0 0, .string s] 42)).alloc (.cells #[.slice none 0 0, .slice none 0 0, .int .i64 r1, .int .i64 r2, .int .i64 r3, .int .i64 r4, .int .i64 r5, .slice none 0 0, .slice none 0 0, .string s] 42)) (w3.heap.size + 1) 42 10 (.slice va i vc) C.length (Nv.rcells C)) := hidIt oc.row
      have hb3 : w3.heap.size + 1 ≤ wr.heap.size := by have := BX.out.lt; omega
      have HFr : Hid (∀ j u, (Nv.rcells [(((none, 0, 0), (none, 0, 0), r1, r2, r3, r4, r5, (none, 0, 0), (none, 0, 0), s) : Nv.Rw)])[j]? = some u → ((w5.alloc (.cells #[.slice none 0 0, .slice none 0 0, .int .i64 r1, .int .i64 r2, .int .i64 r3, .int .i64 r4, .int .i64 r5, .slice none 0 0, .slice none 0 0, .string s] 42)).alloc (.cells #[.slice none 0 0, .slice none 0 0, .int .i64 r1, .int .i64 r2, .int .i64 r3, .int .i64 r4, .int .i64 r5, .slice none 0 0, .slice none 0 0, .string s] 42)).cell? ((⟨w5.heap.size + 1, 0, none⟩ : Addr).add j) = some u) := hidIt (fun j u hj => by
        have z := Nv.fresh (w5.alloc (.cells #[.slice none 0 0, .slice none 0 0, .int .i64 r1, .int .i64 r2, .int .i64 r3, .int .i64 r4, .int .i64 r5, .slice none 0 0, .slice none 0 0, .string s] 42)) ((none, 0, 0), (none, 0, 0), r1, r2, r3, r4, r5, (none, 0, 0), (none, 0, 0), s) 42 j u hj
        have z2 : (w5.alloc (.cells #[.slice none 0 0, .slice none 0 0, .int .i64 r1, .int .i64 r2, .int .i64 r3, .int .i64 r4, .int .i64 r5, .slice none 0 0, .slice none 0 0, .string s] 42)).heap.size = w5.heap.size + 1 := by simp
        rw [z2] at z
        exact z)
      clear oc oc0 bxB k5 kA kB hlen
      go_wp2_with (first | (at_builtin; refine wpList_append_own _ rfl _ _ 22 rfl (w3.heap.size + 1) 42 i0 (.agg #[sv (none, 0, 0), sv (none, 0, 0), .int .i64 0, .int .i64 0, .int .i64 0, .int .i64 0, .int .i64 0, sv (none, 0, 0), sv (none, 0, 0), .string ByteArray.empty]) 10 152 Try.underlying22 hi0 hz0 hz1 hz2 rfl (by decide) _ _ _ rfl HRow.out ⟨w5.heap.size + 1, 0, none⟩ 1 1 [.slice none 0 0, .slice none 0 0, .int .i64 r1, .int .i64 r2, .int .i64 r3, .int .i64 r4, .int .i64 r5, .slice none 0 0, .slice none 0 0, .string s] rfl rfl HFr.out (Nv.rcells_one [((none, 0, 0), (none, 0, 0), r1, r2, r3, r4, r5, (none, 0, 0), (none, 0, 0), s)]) ?ca1 ?ca2 ?ca3 ?_) | fail)
      case ca1 => unfold maxLen; have := HLn.out; omega
      case ca2 => have := HLn.out; omega
      case ca3 => simp; omega
      intro v' w9 hown hgrow hnil
      have oo : Nv.Own w9 (w3.heap.size + 1) v' (C ++ [((none, 0, 0), (none, 0, 0), r1, r2, r3, r4, r5, (none, 0, 0), (none, 0, 0), s)]) := Nv.Own.more (L := C) (M := [((none, 0, 0), (none, 0, 0), r1, r2, r3, r4, r5, (none, 0, 0), (none, 0, 0), s)]) hown
      have pc := OC.out.push (x := ⟨[], [], r1, r2, r3, r4, r5, [], [], s⟩) (Ns.OwnN.none _ _ ⟨rfl, rfl, rfl, rfl⟩) oo hgrow
      have OX9 : Hid (OwnX w9 (w3.heap.size + 1) v' (newL s (i + 1))) := hidIt ⟨_, _, by rw [newL_succ, HX.out]; exact pc⟩
      obtain ⟨za, zc, ez⟩ := OX9.out.form
      rw [newL_len] at ez
      subst ez
      have hrow : ∀ g, (Value.slice va i vc).ownBlock = some g → w3.heap.size + 1 ≤ g := fun g hg => (World.ownsRow.lt HRow.out g hg).1
      have hsub : w.heap.size < w3.heap.size := by omega
      have BX9 := hidIt (Rg.box_grown BXA.out hgrow (fun e => by have := hrow _ e; omega))
      have BR9 := hidIt (Rg.box_grown BRA.out hgrow (fun e => by have := hrow _ e; omega))
      have OK9 : Hid (Iv.Own w9 w1.heap.size (.slice (some ⟨w1.heap.size, 0, none⟩) m m) (List.replicate m 0)) := hidIt (Rg.row_grown OKA.out hgrow (fun g hg e => by have h1 := hrow _ e; have : w1.heap.size = g := Option.some.inj hg; omega))
      have HB9 := hidIt (Rg.below_grown HBA.out hgrow HBA.out.size (fun g hg => by have := hrow g hg; omega))
      clear hown hgrow hnil oo pc BXA BRA OKA HBA OC HRow HFr d1
      have d9 := BX9.out.c 1 (v := .slice va i vc) rfl
      have f9 := BX9.out.fr 1
      have BXs := hidIt (BX9.out.put (c' := #[.int .i64 0, .slice za (i + 1) zc, .slice (some ⟨w1.heap.size, 0, none⟩) m m]) 1 (.slice za (i + 1) zc) (by simp) rfl)
      have Ys := hidIt ((Only.refl w3.heap.size w9).setCell 1 (.slice za (i + 1) zc))
      have BRs := hidIt (Rg.box_only BR9.out Ys.out (by omega))
      have OXs := hidIt (OX9.out.low Ys.out (Nat.lt_succ_self _))
      have OKs : Hid (Iv.Own _ w1.heap.size (.slice (some ⟨w1.heap.size, 0, none⟩) m m) (List.replicate m 0)) := hidIt (Rg.row_only OK9.out Ys.out (fun g hg => by have : w1.heap.size = g := Option.some.inj hg; omega))
      have HBs := hidIt (Rg.below_only HB9.out Ys.out HB9.out.size (by omega))
      clear Ys
      go_wp2_with (fail)
      exact ⟨⟨i + 1, za, zc, by simp, by omega, BRs, BXs, OXs, OKs, HBs⟩, by simp [intOf]; omega⟩
    · have hin' : ¬ (i : Int) < (m : Int) := by omega
      obtain rfl : i = m := by omega
      have a0z := BX.out.c 0 (v := .int .i64 0) rfl
      have a1z := BX.out.c 1 (v := .slice va i vc) rfl
      have a2z := BX.out.c 2 (v := .slice (some ⟨w1.heap.size, 0, none⟩) i i) rfl
      have c0z := BR.out.c 0 (v := .int .i64 0) rfl
      have c1z := BR.out.c 1 (v := .slice none 0 0) rfl
      have c2z := BR.out.c 2 (v := .slice none 0 0) rfl
      have z0z := BR.out.fr 0
      have z1z := BR.out.fr 1
      have z2z := BR.out.fr 2
      have RZ := hidIt ((((BR.out).put (c' := #[.int .i64 0, .slice none 0 0, .slice none 0 0]) 0 (.int .i64 0) (by simp) rfl).put (c' := #[.int .i64 0, .slice va i vc, .slice none 0 0]) 1 (.slice va i vc) (by simp) rfl).put (c' := #[.int .i64 0, .slice va i vc, .slice (some ⟨w1.heap.size, 0, none⟩) i i]) 2 (.slice (some ⟨w1.heap.size, 0, none⟩) i i) (by simp) rfl)
      have HZ := hidIt ((((HBx.out).setCell (p := ⟨w.heap.size, 0, none⟩) (Nat.le_refl _) (.int .i64 0)).setCell (p := ⟨w.heap.size, 1, none⟩) (Nat.le_refl _) (.slice va i vc)).setCell (p := ⟨w.heap.size, 2, none⟩) (Nat.le_refl _) (.slice (some ⟨w1.heap.size, 0, none⟩) i i))
      have YZ := hidIt ((((Only.refl w.heap.size wr).setCell 0 (.int .i64 0)).setCell 1 (.slice va i vc)).setCell 2 (.slice (some ⟨w1.heap.size, 0, none⟩) i i))
      have hsz : ((((wr).setCell ⟨w.heap.size, 0, none⟩ (.int .i64 0)).setCell ⟨w.heap.size, 1, none⟩ (.slice va i vc)).setCell ⟨w.heap.size, 2, none⟩ (.slice (some ⟨w1.heap.size, 0, none⟩) i i)).heap.size = wr.heap.size := by simp [World.setCell]
      go_wp2_with (fail)
      generalize (((wr).setCell ⟨w.heap.size, 0, none⟩ (.int .i64 0)).setCell ⟨w.heap.size, 1, none⟩ (.slice va i vc)).setCell ⟨w.heap.size, 2, none⟩ (.slice (some ⟨w1.heap.size, 0, none⟩) i i) = wz at RZ HZ YZ hsz ⊢
      clear a0z c0z z0z a1z c1z z1z a2z c2z z2z
      have q0c := RZ.out.c 0 (v := .int .i64 0) rfl
      have q1c := RZ.out.c 1 (v := .slice va i vc) rfl
      have q2c := RZ.out.c 2 (v := .slice (some ⟨w1.heap.size, 0, none⟩) i i) rfl
      refine bodyPost_ret (v := .tuple #[.agg #[.int .i64 0, .slice va i vc, .slice (some ⟨w1.heap.size, 0, none⟩) i i], .bool true]) (by simp [results, Try.results4, go_sem, q0c, q1c, q2c]) rfl ?_
      have OXz := hidIt (OX.out.low YZ.out (by omega))
      have OKz : Hid (Iv.Own wz w1.heap.size (.slice (some ⟨w1.heap.size, 0, none⟩) i i) (List.replicate i 0)) := hidIt (Rg.row_only OK.out YZ.out (fun g hg => by have : w1.heap.size = g := Option.some.inj hg; omega))
      refine NcP.of (n := (va, i, vc)) (k := (some ⟨w1.heap.size, 0, none⟩, i, i)) rfl ⟨OXz.out.done (by omega), OKz.out.mono (by omega), fun g hg => (World.ownsRow.lt OKz.out g hg).2⟩ HZ.out
end Go.Proofs.Ytgbnkkjjgodilaa.Kc
namespace Go.Proofs.Ytgbnkkjjgodilaa.Kc
open Go.ChangeShapes Go.WideShapes Go.ChangeAt Go.RowKit
open Go.Proofs.Ytgbnkkjjgodilaa.Vv (Sl sv hidIt)
open Go.Proofs.Ytgbnkkjjgodilaa.Nd (Nw RdN OwnN ShortN SmallN)
open Go.Proofs.Ytgbnkkjjgodilaa.Nn (on)
open Go.Proofs.Ytgbnkkjjgodilaa.Ns (nod)
open Go.Proofs.Ytgbnkkjjgodilaa.Rp (OnlyIn own_apart row_in row_other)
set_option linter.unusedVariables false
open Go.Proofs.Ytgbnkkjjgodilaa.Rg (upd waits wp_region_inv op_at step_row step_copy One box_grown box_only below_grown below_only row_grown row_only box_cells)
structure RN (gr gb gn lo hi : Nat) (va : Option Addr) (vn vc : Nat) (ua : Option Addr) (uc : Nat) (C : List Nv.Rw) (M : List Nw) (Z : List Int) (s : ByteArray) (r1 r2 r3 r4 r5 : Int) (w w0 : World) (L : Nat → Bool) (u32 u33 u34 u35 u36 u37 u38 u39 u40 u41 u42 : Value) (W : World) : Prop where
  k0 : L 0 = true → u32 = .pointer (some ⟨gb, 1, none⟩)
  k1 : L 1 = true → u33 = .slice va vn vc
  k2 : L 2 = true → u34 = .agg #[.slice none 0 0, .slice none 0 0, .int .i64 r1, .int .i64 r2, .int .i64 r3, .int .i64 r4, .int .i64 r5, .slice none 0 0, .slice none 0 0, .string s]
  k5 : L 5 = true → u37 = .pointer (some ⟨gb, 2, none⟩)
  k6 : L 6 = true → u38 = .slice ua vn uc
  k9 : L 9 = true → u41 = .pointer (some ⟨gb, 1, none⟩)
  k11 : L 11 = true → u42 = .pointer (some ⟨gb, 2, none⟩)
  kb : Below w.heap.size w W
  sz : w0.heap.size ≤ W.heap.size
  br : Bo.Box W gr #[.int .i64 0, .slice none 0 0, .slice none 0 0]
  bb : L 10 = false → L 12 = false → Bo.Box W gb #[.int .i64 0, .slice va vn vc, .slice ua vn uc]
  b1 : L 10 = true → L 12 = false → Bo.Box W gb #[.int .i64 0, u36, .slice ua vn uc]
  b2 : L 12 = true → Bo.Box W gb #[.int .i64 0, u36, u40]
  bn : Bo.Box W gn #[.slice none 0 0, .slice none 0 0, .int .i64 r1, .int .i64 r2, .int .i64 r3, .int .i64 r4, .int .i64 r5, .slice none 0 0, .slice none 0 0, .string s]
  on : L 4 = false → Ns.OwnC W lo hi (.slice va vn vc) C M
  oN : L 4 = true → OwnX W lo u36 (M ++ [(⟨[], [], r1, r2, r3, r4, r5, [], [], s⟩ : Nw)])
  oi : L 8 = false → Iv.Own W lo (.slice ua vn uc) Z
  oI : L 8 = true → Iv.Own W lo u40 (Z ++ [0])
  f3 : L 3 = true → L 4 = false → One w0.heap.size #[.slice none 0 0, .slice none 0 0, .int .i64 r1, .int .i64 r2, .int .i64 r3, .int .i64 r4, .int .i64 r5, .slice none 0 0, .slice none 0 0, .string s] u35 W
  f7 : L 7 = true → L 8 = false → One w0.heap.size #[.int .i64 0] u39 W
  p1_0 : L 1 = true → L 0 = true
  p3_2 : L 3 = true → L 2 = true
  p4_1 : L 4 = true → L 1 = true
  p4_3 : L 4 = true → L 3 = true
  p6_5 : L 6 = true → L 5 = true
  p8_6 : L 8 = true → L 6 = true
  p8_7 : L 8 = true → L 7 = true
  p8_4 : L 8 = true → L 4 = true
  p10_8 : L 10 = true → L 8 = true
  p10_9 : L 10 = true → L 9 = true
  p12_10 : L 12 = true → L 10 = true
  p12_11 : L 12 = true → L 11 = true
def KN (gr gb gn lo hi : Nat) (va : Option Addr) (vn vc : Nat) (ua : Option Addr) (uc : Nat) (C : List Nv.Rw) (M : List Nw) (Z : List Int) (s : ByteArray) (r1 r2 r3 r4 r5 : Int) (w w0 : World) (y0 y1 y2 y3 y4 y5 y6 y7 y8 y9 y10 y11 y12 y13 y14 y15 y16 y17 y18 y19 y20 y21 y22 y23 y24 y25 y26 y27 y28 y29 y30 y31 y43 y44 : Value) (L : Nat → Bool) (a : Act) (W : World) : Prop := ∃ u32 u33 u34 u35 u36 u37 u38 u39 u40 u41 u42 : Value, a = ⟨(y0 :: y1 :: y2 :: y3 :: y4 :: y5 :: y6 :: y7 :: y8 :: y9 :: y10 :: y11 :: y12 :: y13 :: y14 :: y15 :: y16 :: y17 :: y18 :: y19 :: y20 :: y21 :: y22 :: y23 :: y24 :: y25 :: y26 :: y27 :: y28 :: y29 :: y30 :: y31 :: u32 :: u33 :: u34 :: u35 :: u36 :: u37 :: u38 :: u39 :: u40 :: u41 :: u42 :: y43 :: y44 :: []).toArray, []⟩ ∧ RN gr gb gn lo hi va vn vc ua uc C M Z s r1 r2 r3 r4 r5 w w0 L u32 u33 u34 u35 u36 u37 u38 u39 u40 u41 u42 W
set_option maxRecDepth 100000 in
set_option maxHeartbeats 16000000 in
theorem impl_NewCluster (s : ByteArray) (n : Int) (w : World) : Calls Try.prog 5 #[.string s, .int .i64 n] w fun en w' => NcP (newC s n) w en w' := by
  obtain ⟨j0, hj0, hy0, hy1, hy2⟩ := info_parts infoK
  have CN := hidIt (fun (o : Int) W => (Nn.impl_NewNodeQ s 7 o W).mono (fun e w' h => h.out))
  obtain ⟨i0, hi0, hz0, hz1, hz2⟩ := info_parts Nv.infoRw
  have N1 : Hid ((Nd.apexB s && Ro.inB n 1 4) = false → newC s n = (⟨0, [], []⟩, false)) := hidIt (fun h => by unfold newC; rw [h]; rfl)
  have N2 : Hid ((Nd.apexB s && Ro.inB n 1 4) = true → newC s n = (⟨0, newL s n.toNat, List.replicate n.toNat 0⟩, true)) := hidIt (fun h => by unfold newC; rw [h]; rfl)
  have HI : Hid (Ro.inB n 1 4 = (decide (1 ≤ n) && decide (n ≤ 4))) := hidIt rfl
  have NW : Hid (∀ i : Nat, i < 4 → Nd.apexB s = true → Nn.newN s 7 (8 + (i : Int)) = (((Ro.newR 7 (8 + (i : Int)) 0).1, s), true)) := hidIt (fun i hi ha => new_ok hi ha)
  have NV : Hid (∀ o : Int, Nd.apexB s = false → Nn.newN s 7 o = (((0, 0, 0, 0, 0), ⟨#[]⟩), false)) := hidIt (fun o ha => new_no ha)
  generalize newC s n = r at N1 N2 ⊢
  generalize Nd.apexB s = k1 at N1 N2 NW NV
  have BR := hidIt (Bo.Box.new w #[.int .i64 0, .slice none 0 0, .slice none 0 0] 25)
  have HB := hidIt ((Below.refl w.heap.size w).alloc (Nat.le_refl _) (.cells #[.int .i64 0, .slice none 0 0, .slice none 0 0] 25))
  by_cases h1 : n < 1
  · have er := N1.out (by rw [HI.out, decide_eq_false (by omega : ¬ 1 ≤ n)]; simp)
    subst er
    have g1 : decide (n < 1) = true := decide_eq_true h1
    go_enter Try.func5, Try.ntmps5
    go_wp2_with (fail)
    refine bodyPost_ret (v := .tuple #[.agg #[.int .i64 0, .slice none 0 0, .slice none 0 0], .bool false]) (by simp [results, Try.results5, go_sem]) rfl ?_
    exact NcP.zero rfl HB.out
  by_cases h4 : 4 < n
  · have er := N1.out (by rw [HI.out, decide_eq_false (by omega : ¬ n ≤ 4)]; simp)
    subst er
    have g1 : decide (n < 1) = false := decide_eq_false h1
    have g4 : decide (4 < n) = true := decide_eq_true h4
    go_enter Try.func5, Try.ntmps5
    go_wp2_with (fail)
    refine bodyPost_ret (v := .tuple #[.agg #[.int .i64 0, .slice none 0 0, .slice none 0 0], .bool false]) (by simp [results, Try.results5, go_sem]) rfl ?_
    exact NcP.zero rfl HB.out
  have g1 : decide (n < 1) = false := decide_eq_false h1
  have g4 : decide (4 < n) = false := decide_eq_false h4
  have hin : Ro.inB n 1 4 = true := by rw [HI.out, decide_eq_true (by omega : 1 ≤ n), decide_eq_true (by omega : n ≤ 4)]; rfl
  rw [hin] at N1 N2
  obtain ⟨m, rfl⟩ : ∃ m : Nat, n = m := ⟨n.toNat, by omega⟩
  have hm1 : 1 ≤ m := by omega
  have hm4 : m ≤ 4 := by omega
  rw [Int.toNat_natCast] at N2
  clear HI hin h1 h4
  have HB4 := hidIt (HB.out.alloc HB.out.size (.cells #[.int .i64 0, .slice none 0 0, .slice none 0 0] 25))
  have BR4 := hidIt (BR.out.alloc (.cells #[.int .i64 0, .slice none 0 0, .slice none 0 0] 25))
  have BX4 : Hid (Bo.Box ((w.alloc (.cells #[.int .i64 0, .slice none 0 0, .slice none 0 0] 25)).alloc (.cells #[.int .i64 0, .slice none 0 0, .slice none 0 0] 25)) (w.heap.size + 1) #[.int .i64 0, .slice none 0 0, .slice none 0 0]) := hidIt (Bo.Box.newAt (by simp))
  have hsz4 : ((w.alloc (.cells #[.int .i64 0, .slice none 0 0, .slice none 0 0] 25)).alloc (.cells #[.int .i64 0, .slice none 0 0, .slice none 0 0] 25)).heap.size = w.heap.size + 1 + 1 := by simp
  clear BR HB
  go_enter Try.func5, Try.ntmps5
  go_wp2_with (fail)
  generalize (w.alloc (.cells #[.int .i64 0, .slice none 0 0, .slice none 0 0] 25)).alloc (.cells #[.int .i64 0, .slice none 0 0, .slice none 0 0] 25) = W4 at HB4 BR4 BX4 hsz4 ⊢
  have HS4 := hidIt hsz4
  clear hsz4 g1 g4
  go_loopw [19] (fun y wx => ∃ (i : Nat) (va : Option Addr) (vc : Nat) (ua : Option Addr) (uc : Nat), y = .int .i64 i ∧ i ≤ m ∧ Hid (Bo.Box wx w.heap.size #[.int .i64 0, .slice none 0 0, .slice none 0 0]) ∧ Hid (Bo.Box wx (w.heap.size + 1) #[.int .i64 0, .slice va i vc, .slice ua i uc]) ∧ Hid (OwnX wx (w.heap.size + 2) (.slice va i vc) (newL s i)) ∧ Hid (Iv.Own wx (w.heap.size + 2) (.slice ua i uc) (List.replicate i 0)) ∧ Hid (Below w.heap.size w wx) ∧ Hid (1 ≤ i → k1 = true)) (fun y _ => (m - intOf y).toNat)
  case atStart => exact ⟨0, none, 0, none, 0, rfl, by omega, BR4, BX4, hidIt ⟨W4.heap.size, Ns.Own.ofNil W4 (by have := HS4.out; omega) (Nat.le_refl _)⟩, hidIt (World.ownsRow_nil _ _ _ _), HB4, hidIt (fun h => by omega)⟩
  case round =>
    obtain ⟨i, va, vc, ua, uc, rfl, hi, BR, BX, OX, OK, HBx, HK1⟩ := hrel
    clear BR4 BX4 HB4
    by_cases hin : i < m
    · have hin' : (i : Int) < (m : Int) := by omega
      cases k1 with
      | false =>
        have er := N1.out rfl
        subst er
        have CNi := hidIt (fun W => CN.out (8 + (i : Int)) W)
        rw [NV.out (8 + (i : Int)) (by first | rfl | trivial)] at CNi
        simp only at CNi
        go_wp2_with (fail)
        refine (CNi.out _).mono ?_
        rintro en w5 ⟨rfl, k5⟩
        have kA : Below wr.heap.size wr (w5.alloc (.cells #[.slice none 0 0, .slice none 0 0, .int .i64 0, .int .i64 0, .int .i64 0, .int .i64 0, .int .i64 0, .slice none 0 0, .slice none 0 0, .string ⟨#[]⟩] 42)) := k5.alloc k5.size _
        have BRz := hidIt (BR.out.kept kA)
        have HBz := hidIt (on HBx.out kA)
        clear k5 kA
        have c0z := BRz.out.c 0 (v := .int .i64 0) rfl
        have c1z := BRz.out.c 1 (v := .slice none 0 0) rfl
        have c2z := BRz.out.c 2 (v := .slice none 0 0) rfl
        have z0z := BRz.out.fr 0
        have z1z := BRz.out.fr 1
        have z2z := BRz.out.fr 2
        have RZ := hidIt ((((BRz.out).put (c' := #[.int .i64 0, .slice none 0 0, .slice none 0 0]) 0 (.int .i64 0) (by simp) rfl).put (c' := #[.int .i64 0, .slice none 0 0, .slice none 0 0]) 1 (.slice none 0 0) (by simp) rfl).put (c' := #[.int .i64 0, .slice none 0 0, .slice none 0 0]) 2 (.slice none 0 0) (by simp) rfl)
        have HZ := hidIt ((((HBz.out).setCell (p := ⟨w.heap.size, 0, none⟩) (Nat.le_refl _) (.int .i64 0)).setCell (p := ⟨w.heap.size, 1, none⟩) (Nat.le_refl _) (.slice none 0 0)).setCell (p := ⟨w.heap.size, 2, none⟩) (Nat.le_refl _) (.slice none 0 0))
        go_wp2_with (fail)
        generalize (((w5.alloc (.cells #[.slice none 0 0, .slice none 0 0, .int .i64 0, .int .i64 0, .int .i64 0, .int .i64 0, .int .i64 0, .slice none 0 0, .slice none 0 0, .string ⟨#[]⟩] 42)).setCell ⟨w.heap.size, 0, none⟩ (.int .i64 0)).setCell ⟨w.heap.size, 1, none⟩ (.slice none 0 0)).setCell ⟨w.heap.size, 2, none⟩ (.slice none 0 0) = wz at RZ HZ ⊢
        clear c0z z0z c1z z1z c2z z2z
        have q0c := RZ.out.c 0 (v := .int .i64 0) rfl
        have q1c := RZ.out.c 1 (v := .slice none 0 0) rfl
        have q2c := RZ.out.c 2 (v := .slice none 0 0) rfl
        refine bodyPost_ret (v := .tuple #[.agg #[.int .i64 0, .slice none 0 0, .slice none 0 0], .bool false]) (by simp [results, Try.results5, go_sem, q0c, q1c, q2c]) rfl ?_
        exact NcP.zero rfl HZ.out
      | true =>
      have CNi := hidIt (fun W => CN.out (8 + (i : Int)) W)
      rw [NW.out i (by omega) (by first | rfl | trivial)] at CNi
      simp only at CNi
      have hx : mkN s (8 + (i : Int)) = ⟨[], [], (Ro.newR 7 (8 + (i : Int)) 0).1.1, (Ro.newR 7 (8 + (i : Int)) 0).1.2.1, (Ro.newR 7 (8 + (i : Int)) 0).1.2.2.1, (Ro.newR 7 (8 + (i : Int)) 0).1.2.2.2.1, (Ro.newR 7 (8 + (i : Int)) 0).1.2.2.2.2, [], [], s⟩ := rfl
      obtain ⟨ro, HRO⟩ : ∃ ro, Hid ((Ro.newR 7 (8 + (i : Int)) 0).1 = ro) := ⟨_, hidIt rfl⟩
      rw [HRO.out] at CNi hx
      obtain ⟨r1, r2, r3, r4, r5⟩ := ro
      simp only at CNi hx
      have HX := hidIt hx
      clear hx HRO
      go_wp2_with (fail)
      refine (CNi.out _).mono ?_
      rintro en w5 ⟨rfl, k5⟩
      have hsz5 := k5.size
      have kB : Below wr.heap.size wr (w5.alloc (.cells #[.slice none 0 0, .slice none 0 0, .int .i64 r1, .int .i64 r2, .int .i64 r3, .int .i64 r4, .int .i64 r5, .slice none 0 0, .slice none 0 0, .string s] 42)) := k5.alloc k5.size _
      obtain ⟨hi2, C, oc0⟩ := OX.out.out
      have hvr : ∀ g, (Value.slice va i vc).ownBlock = some g → w.heap.size + 2 ≤ g ∧ g < wr.heap.size := fun g hg => World.ownsRow.lt oc0.row g hg
      have hur : ∀ g, (Value.slice ua i uc).ownBlock = some g → w.heap.size + 2 ≤ g ∧ g < wr.heap.size := fun g hg => World.ownsRow.lt OK.out g hg
      have hb3 : w.heap.size + 2 ≤ wr.heap.size := by have := BX.out.lt; omega
      have hlen : C.length = i := oc0.len.trans (newL_len s i)
      have HLn : Hid (C.length ≤ 4) := hidIt (by omega)
      have HZn : Hid ((List.replicate i (0 : Int)).length ≤ 4) := hidIt (by rw [List.length_replicate]; omega)
      have OC6 := hidIt (oc0.kept kB)
      have BX6 := hidIt (BX.out.kept kB)
      have BR6 := hidIt (BR.out.kept kB)
      have OK6 := hidIt (OK.out.kept kB)
      have HB6 := hidIt (on HBx.out kB)
      have BN6 := hidIt (Bo.Box.new w5 #[.slice none 0 0, .slice none 0 0, .int .i64 r1, .int .i64 r2, .int .i64 r3, .int .i64 r4, .int .i64 r5, .slice none 0 0, .slice none 0 0, .string s] 42)
      have HL0 : Hid (w.heap.size + 2 ≤ (w5.alloc (.cells #[.slice none 0 0, .slice none 0 0, .int .i64 r1, .int .i64 r2, .int .i64 r3, .int .i64 r4, .int .i64 r5, .slice none 0 0, .slice none 0 0, .string s] 42)).heap.size) := hidIt (by simp; omega)
      have HV : Hid ((∀ g, (Value.slice va i vc).ownBlock = some g → w.heap.size + 2 ≤ g) ∧ (∀ g, (Value.slice va i vc).ownBlock = some g → g < (w5.alloc (.cells #[.slice none 0 0, .slice none 0 0, .int .i64 r1, .int .i64 r2, .int .i64 r3, .int .i64 r4, .int .i64 r5, .slice none 0 0, .slice none 0 0, .string s] 42)).heap.size) ∧ ∀ g, (Value.slice va i vc).ownBlock = some g → g = w5.heap.size → False) := hidIt ⟨fun g hg => (hvr g hg).1, fun g hg => by have := (hvr g hg).2; simp; omega, fun g hg e => by have := (hvr g hg).2; omega⟩
      have HU : Hid ((∀ g, (Value.slice ua i uc).ownBlock = some g → w.heap.size + 2 ≤ g) ∧ (∀ g, (Value.slice ua i uc).ownBlock = some g → g < (w5.alloc (.cells #[.slice none 0 0, .slice none 0 0, .int .i64 r1, .int .i64 r2, .int .i64 r3, .int .i64 r4, .int .i64 r5, .slice none 0 0, .slice none 0 0, .string s] 42)).heap.size) ∧ ∀ g, (Value.slice ua i uc).ownBlock = some g → g = w5.heap.size → False) := hidIt ⟨fun g hg => (hur g hg).1, fun g hg => by have := (hur g hg).2; simp; omega, fun g hg e => by have := (hur g hg).2; omega⟩
      have HGB : Hid (w.heap.size < w.heap.size + 1 ∧ w.heap.size + 1 < w.heap.size + 2) := hidIt ⟨by omega, by omega⟩
      have HLO : Hid (w.heap.size ≤ w.heap.size + 2) := hidIt (by omega)
      have HGN : Hid (w5.heap.size ≠ w.heap.size + 1) := hidIt (by omega)
      clear oc0 k5 kB hvr hur hlen BR BX OX OK HBx hb3 hsz5
      go_wp2_with (fail)
      generalize w5.alloc (.cells #[.slice none 0 0, .slice none 0 0, .int .i64 r1, .int .i64 r2, .int .i64 r3, .int .i64 r4, .int .i64 r5, .slice none 0 0, .slice none 0 0, .string s] 42) = W6 at OC6 BX6 BR6 OK6 HB6 BN6 HL0 HV HU ⊢
      have kd : Below W6.heap.size W6 W6.drew := (Below.refl _ _).drew
      refine wp_region_inv (by kernel_rfl) (by kernel_rfl) (KN w.heap.size (w.heap.size + 1) w5.heap.size (w.heap.size + 2) hi2 va i vc ua uc C (newL s i) (List.replicate i 0) s r1 r2 r3 r4 r5 w W6 _ _ _ _ _ _ _ _ _ _ _ _ _ _ _ _ _ _ _ _ _ _ _ _ _ _ _ _ _ _ _ _ _ _) ⟨_, _, _, _, _, _, _, _, _, _, _, rfl, ⟨(fun q0 => by cases q0), (fun q0 => by cases q0), (fun q0 => by cases q0), (fun q0 => by cases q0), (fun q0 => by cases q0), (fun q0 => by cases q0), (fun q0 => by cases q0), (HB6.out.trans (kd.mono HB6.out.size)), (Nat.le_refl _), (BR6.out.kept kd), (fun _ _ => BX6.out.kept kd), (fun q0 q1 => by cases q0), (fun q0 => by cases q0), (BN6.out.kept kd), (fun _ => OC6.out.kept kd), (fun q0 => by cases q0), (fun _ => OK6.out.kept kd), (fun q0 => by cases q0), (fun q0 q1 => by cases q0), (fun q0 q1 => by cases q0), (fun q0 => by cases q0), (fun q0 => by cases q0), (fun q0 => by cases q0), (fun q0 => by cases q0), (fun q0 => by cases q0), (fun q0 => by cases q0), (fun q0 => by cases q0), (fun q0 => by cases q0), (fun q0 => by cases q0), (fun q0 => by cases q0), (fun q0 => by cases q0), (fun q0 => by cases q0)⟩⟩ ?_ ?_
      case refine_1 =>
        intro Lb a' W j hj hI hL hD
        have hcases : j = 0 ∨ j = 1 ∨ j = 2 ∨ j = 3 ∨ j = 4 ∨ j = 5 ∨ j = 6 ∨ j = 7 ∨ j = 8 ∨ j = 9 ∨ j = 10 ∨ j = 11 ∨ j = 12 := by simp at hj; omega
        clear hj
        obtain ⟨u32, u33, u34, u35, u36, u37, u38, u39, u40, u41, u42, rfl, R⟩ := hI
        rcases hcases with rfl | rfl | rfl | rfl | rfl | rfl | rfl | rfl | rfl | rfl | rfl | rfl | rfl
        · skip
          refine op_at rfl (fun K hK => ?_)
          go_simp
          refine hK _ _ ?_
          exact ⟨_, _, _, _, _, _, _, _, _, _, _, rfl, ⟨(fun _ => rfl), R.k1, R.k2, R.k5, R.k6, R.k9, R.k11, R.kb, R.sz, R.br, R.bb, R.b1, R.b2, R.bn, R.on, R.oN, R.oi, R.oI, R.f3, R.f7, (fun _ => rfl), R.p3_2, R.p4_1, R.p4_3, R.p6_5, R.p8_6, R.p8_7, R.p8_4, R.p10_8, R.p10_9, R.p12_10, R.p12_11⟩⟩
        · skip
          have e0 := R.k0 (hD 0 (by kernel_rfl))
          subst e0
          have n10 : Lb 10 = false := by
            cases q : Lb 10 with
            | false => rfl
            | true => have z := R.p4_1 (R.p8_4 (R.p10_8 (q))); rw [hL] at z; cases z
          have n12 : Lb 12 = false := by
            cases q : Lb 12 with
            | false => rfl
            | true => have z := R.p4_1 (R.p8_4 (R.p10_8 (R.p12_10 (q)))); rw [hL] at z; cases z
          have d1 := (R.bb n10 n12).c 1 (v := .slice va i vc) rfl
          refine op_at rfl (fun K hK => ?_)
          go_simp
          refine hK _ _ ?_
          exact ⟨_, _, _, _, _, _, _, _, _, _, _, rfl, ⟨R.k0, (fun _ => rfl), R.k2, R.k5, R.k6, R.k9, R.k11, R.kb, R.sz, R.br, R.bb, R.b1, R.b2, R.bn, R.on, R.oN, R.oi, R.oI, R.f3, R.f7, (fun _ => hD 0 (by kernel_rfl)), R.p3_2, (fun _ => rfl), R.p4_3, R.p6_5, R.p8_6, R.p8_7, R.p8_4, R.p10_8, R.p10_9, R.p12_10, R.p12_11⟩⟩
        · skip
          have d0 := R.bn.c 0 (v := .slice none 0 0) rfl
          have d1 := R.bn.c 1 (v := .slice none 0 0) rfl
          have d2 := R.bn.c 2 (v := .int .i64 r1) rfl
          have d3 := R.bn.c 3 (v := .int .i64 r2) rfl
          have d4 := R.bn.c 4 (v := .int .i64 r3) rfl
          have d5 := R.bn.c 5 (v := .int .i64 r4) rfl
          have d6 := R.bn.c 6 (v := .int .i64 r5) rfl
          have d7 := R.bn.c 7 (v := .slice none 0 0) rfl
          have d8 := R.bn.c 8 (v := .slice none 0 0) rfl
          have d9 := R.bn.c 9 (v := .string s) rfl
          refine op_at rfl (fun K hK => ?_)
          go_simp
          refine hK _ _ ?_
          exact ⟨_, _, _, _, _, _, _, _, _, _, _, rfl, ⟨R.k0, R.k1, (fun _ => rfl), R.k5, R.k6, R.k9, R.k11, R.kb, R.sz, R.br, R.bb, R.b1, R.b2, R.bn, R.on, R.oN, R.oi, R.oI, R.f3, R.f7, R.p1_0, (fun _ => rfl), R.p4_1, R.p4_3, R.p6_5, R.p8_6, R.p8_7, R.p8_4, R.p10_8, R.p10_9, R.p12_10, R.p12_11⟩⟩
        · skip
          have e2 := R.k2 (hD 2 (by kernel_rfl))
          subst e2
          have kA := (Below.refl W.heap.size W).alloc (Nat.le_refl _) (.cells #[.slice none 0 0, .slice none 0 0, .int .i64 r1, .int .i64 r2, .int .i64 r3, .int .i64 r4, .int .i64 r5, .slice none 0 0, .slice none 0 0, .string s] 42)
          refine op_at rfl (fun K hK => ?_)
          go_simp
          refine hK _ _ ?_
          exact ⟨_, _, _, _, _, _, _, _, _, _, _, rfl, ⟨R.k0, R.k1, R.k2, R.k5, R.k6, R.k9, R.k11, (R.kb.trans (kA.mono R.kb.size)), (Nat.le_trans R.sz kA.size), (R.br.kept kA), (fun q0 q1 => (R.bb q0 q1).kept kA), (fun q0 q1 => (R.b1 q0 q1).kept kA), (fun q0 => (R.b2 q0).kept kA), (R.bn.kept kA), (fun q0 => (R.on q0).kept kA), (fun q0 => (R.oN q0).kept kA), (fun q0 => (R.oi q0).kept kA), (fun q0 => (R.oI q0).kept kA), (fun _ _ => One.new #[.slice none 0 0, .slice none 0 0, .int .i64 r1, .int .i64 r2, .int .i64 r3, .int .i64 r4, .int .i64 r5, .slice none 0 0, .slice none 0 0, .string s] 42 R.sz), (fun q0 q1 => (R.f7 q0 q1).kept kA), R.p1_0, (fun _ => hD 2 (by kernel_rfl)), R.p4_1, (fun _ => rfl), R.p6_5, R.p8_6, R.p8_7, R.p8_4, R.p10_8, R.p10_9, R.p12_10, R.p12_11⟩⟩
        · skip
          have e1 := R.k1 (hD 1 (by kernel_rfl))
          subst e1
          have n10 : Lb 10 = false := by
            cases q : Lb 10 with
            | false => rfl
            | true => have z := R.p8_4 (R.p10_8 (q)); rw [hL] at z; cases z
          have n12 : Lb 12 = false := by
            cases q : Lb 12 with
            | false => rfl
            | true => have z := R.p8_4 (R.p10_8 (R.p12_10 (q))); rw [hL] at z; cases z
          obtain ⟨bl, e3, h3, x3⟩ := R.f3 (hD 3 (by kernel_rfl)) hL
          subst e3
          have oc := R.on hL
          have ow := oc.row
          have hlC := oc.len
          refine op_at rfl (fun K hK => ?_)
          refine step_row (by rfl) (.tmp 33) (.tmp 35) 22 (by rfl) 42 i0 (.agg #[sv (none, 0, 0), sv (none, 0, 0), .int .i64 0, .int .i64 0, .int .i64 0, .int .i64 0, .int .i64 0, sv (none, 0, 0), sv (none, 0, 0), .string ByteArray.empty]) 10 152 Try.underlying22 hi0 hz0 hz1 hz2 rfl (by decide) (w.heap.size + 2) (.slice va i vc) C.length (Nv.rcells C) (by simp [Act.eval]) ow ⟨bl, 0, none⟩ 1 1 [.slice none 0 0, .slice none 0 0, .int .i64 r1, .int .i64 r2, .int .i64 r3, .int .i64 r4, .int .i64 r5, .slice none 0 0, .slice none 0 0, .string s] (by simp [Act.eval]) rfl (box_cells x3) (Nv.rcells_one [((none, 0, 0), (none, 0, 0), r1, r2, r3, r4, r5, (none, 0, 0), (none, 0, 0), s)]) (by unfold maxLen; have := HLn.out; omega) (by have := HLn.out; omega) (Nat.le_trans HL0.out R.sz) ?_
          intro v' W' hown hgrow hnil
          have oo : Nv.Own W' (w.heap.size + 2) v' (C ++ [((none, 0, 0), (none, 0, 0), r1, r2, r3, r4, r5, (none, 0, 0), (none, 0, 0), s)]) := Nv.Own.more (L := C) (M := [((none, 0, 0), (none, 0, 0), r1, r2, r3, r4, r5, (none, 0, 0), (none, 0, 0), s)]) hown
          have pc := oc.push (x := ⟨[], [], r1, r2, r3, r4, r5, [], [], s⟩) (Ns.OwnN.none _ _ ⟨rfl, rfl, rfl, rfl⟩) oo hgrow
          refine hK _ _ ?_
          exact ⟨_, _, _, _, _, _, _, _, _, _, _, rfl, ⟨R.k0, R.k1, R.k2, R.k5, R.k6, R.k9, R.k11, (below_grown R.kb hgrow R.kb.size (fun g hg => Nat.le_trans HLO.out (HV.out.1 g hg))), (Nat.le_trans R.sz hgrow.size), (box_grown R.br hgrow (fun e => by have h1 := HV.out.1 _ e; have h2 := HGB.out; omega)), (fun q0 q1 => box_grown (R.bb q0 q1) hgrow (fun e => by have h1 := HV.out.1 _ e; have h2 := HGB.out; omega)), (fun q _ => by rw [show upd Lb 4 10 = Lb 10 from rfl, n10] at q; cases q), (fun q => by rw [show upd Lb 4 12 = Lb 12 from rfl, n12] at q; cases q), (box_grown R.bn hgrow (fun e => HV.out.2.2 _ e rfl)), (fun q0 => by cases q0), (fun _ => ⟨_, _, pc⟩), (fun q0 => row_grown (R.oi q0) hgrow (own_apart (R.oi q0) ow (by decide))), (fun q0 => row_grown (R.oI q0) hgrow (own_apart (R.oI q0) ow (by decide))), (fun q0 q1 => by cases q1), (fun q0 q1 => (R.f7 q0 q1).grown hgrow (fun g hg => HV.out.2.1 g hg)), R.p1_0, R.p3_2, (fun _ => hD 1 (by kernel_rfl)), (fun _ => hD 3 (by kernel_rfl)), R.p6_5, R.p8_6, R.p8_7, (fun _ => rfl), R.p10_8, R.p10_9, R.p12_10, R.p12_11⟩⟩
        · skip
          refine op_at rfl (fun K hK => ?_)
          go_simp
          refine hK _ _ ?_
          exact ⟨_, _, _, _, _, _, _, _, _, _, _, rfl, ⟨R.k0, R.k1, R.k2, (fun _ => rfl), R.k6, R.k9, R.k11, R.kb, R.sz, R.br, R.bb, R.b1, R.b2, R.bn, R.on, R.oN, R.oi, R.oI, R.f3, R.f7, R.p1_0, R.p3_2, R.p4_1, R.p4_3, (fun _ => rfl), R.p8_6, R.p8_7, R.p8_4, R.p10_8, R.p10_9, R.p12_10, R.p12_11⟩⟩
        · skip
          have e5 := R.k5 (hD 5 (by kernel_rfl))
          subst e5
          have n10 : Lb 10 = false := by
            cases q : Lb 10 with
            | false => rfl
            | true => have z := R.p8_6 (R.p10_8 (q)); rw [hL] at z; cases z
          have n12 : Lb 12 = false := by
            cases q : Lb 12 with
            | false => rfl
            | true => have z := R.p8_6 (R.p10_8 (R.p12_10 (q))); rw [hL] at z; cases z
          have d2 := (R.bb n10 n12).c 2 (v := .slice ua i uc) rfl
          refine op_at rfl (fun K hK => ?_)
          go_simp
          refine hK _ _ ?_
          exact ⟨_, _, _, _, _, _, _, _, _, _, _, rfl, ⟨R.k0, R.k1, R.k2, R.k5, (fun _ => rfl), R.k9, R.k11, R.kb, R.sz, R.br, R.bb, R.b1, R.b2, R.bn, R.on, R.oN, R.oi, R.oI, R.f3, R.f7, R.p1_0, R.p3_2, R.p4_1, R.p4_3, (fun _ => hD 5 (by kernel_rfl)), (fun _ => rfl), R.p8_7, R.p8_4, R.p10_8, R.p10_9, R.p12_10, R.p12_11⟩⟩
        · skip
          have kA := (Below.refl W.heap.size W).alloc (Nat.le_refl _) (.cells #[.int .i64 0] 2)
          refine op_at rfl (fun K hK => ?_)
          go_simp
          refine hK _ _ ?_
          exact ⟨_, _, _, _, _, _, _, _, _, _, _, rfl, ⟨R.k0, R.k1, R.k2, R.k5, R.k6, R.k9, R.k11, (R.kb.trans (kA.mono R.kb.size)), (Nat.le_trans R.sz kA.size), (R.br.kept kA), (fun q0 q1 => (R.bb q0 q1).kept kA), (fun q0 q1 => (R.b1 q0 q1).kept kA), (fun q0 => (R.b2 q0).kept kA), (R.bn.kept kA), (fun q0 => (R.on q0).kept kA), (fun q0 => (R.oN q0).kept kA), (fun q0 => (R.oi q0).kept kA), (fun q0 => (R.oI q0).kept kA), (fun q0 q1 => (R.f3 q0 q1).kept kA), (fun _ _ => One.new #[.int .i64 0] 2 R.sz), R.p1_0, R.p3_2, R.p4_1, R.p4_3, R.p6_5, R.p8_6, (fun _ => rfl), R.p8_4, R.p10_8, R.p10_9, R.p12_10, R.p12_11⟩⟩
        · skip
          have e6 := R.k6 (hD 6 (by kernel_rfl))
          subst e6
          have n12 : Lb 12 = false := by
            cases q : Lb 12 with
            | false => rfl
            | true => have z := R.p10_8 (R.p12_10 (q)); rw [hL] at z; cases z
          obtain ⟨bl, e7, h7, x7⟩ := R.f7 (hD 7 (by kernel_rfl)) hL
          subst e7
          have oz := R.oi hL
          have ow : W.ownsRow (w.heap.size + 2) 2 1 (.slice ua i uc) (List.replicate i (0 : Int)).length (Iv.icells (List.replicate i (0 : Int))) := oz
          refine op_at rfl (fun K hK => ?_)
          refine step_row (by rfl) (.tmp 38) (.tmp 39) 23 (by rfl) 2 j0 (.int .i64 0) 1 8 Try.underlying23 hj0 hy0 hy1 hy2 rfl (by decide) (w.heap.size + 2) (.slice ua i uc) (List.replicate i (0 : Int)).length (Iv.icells (List.replicate i (0 : Int))) (by simp [Act.eval]) ow ⟨bl, 0, none⟩ 1 1 [.int .i64 0] (by simp [Act.eval]) rfl (box_cells x7) (fun u hu => by simp at hu; subst hu; rfl) (by unfold maxLen; have := HZn.out; omega) (by have := HZn.out; omega) (Nat.le_trans HL0.out R.sz) ?_
          intro v' W' hown hgrow hnil
          refine hK _ _ ?_
          exact ⟨_, _, _, _, _, _, _, _, _, _, _, rfl, ⟨R.k0, R.k1, R.k2, R.k5, R.k6, R.k9, R.k11, (below_grown R.kb hgrow R.kb.size (fun g hg => Nat.le_trans HLO.out (HU.out.1 g hg))), (Nat.le_trans R.sz hgrow.size), (box_grown R.br hgrow (fun e => by have h1 := HU.out.1 _ e; have h2 := HGB.out; omega)), (fun q0 q1 => box_grown (R.bb q0 q1) hgrow (fun e => by have h1 := HU.out.1 _ e; have h2 := HGB.out; omega)), (fun q0 q1 => box_grown (R.b1 q0 q1) hgrow (fun e => by have h1 := HU.out.1 _ e; have h2 := HGB.out; omega)), (fun q => by rw [show upd Lb 8 12 = Lb 12 from rfl, n12] at q; cases q), (box_grown R.bn hgrow (fun e => HU.out.2.2 _ e rfl)), (fun q0 => grown_ints (R.on q0) ow hgrow), (fun q0 => (R.oN q0).ints ow hgrow), (fun q0 => by cases q0), (fun _ => Iv.Own.more hown), (fun q0 q1 => (R.f3 q0 q1).grown hgrow (fun g hg => HU.out.2.1 g hg)), (fun q0 q1 => by cases q1), R.p1_0, R.p3_2, R.p4_1, R.p4_3, R.p6_5, (fun _ => hD 6 (by kernel_rfl)), (fun _ => hD 7 (by kernel_rfl)), (fun _ => hD 4 (by kernel_rfl)), (fun _ => rfl), R.p10_9, R.p12_10, R.p12_11⟩⟩
        · skip
          refine op_at rfl (fun K hK => ?_)
          go_simp
          refine hK _ _ ?_
          exact ⟨_, _, _, _, _, _, _, _, _, _, _, rfl, ⟨R.k0, R.k1, R.k2, R.k5, R.k6, (fun _ => rfl), R.k11, R.kb, R.sz, R.br, R.bb, R.b1, R.b2, R.bn, R.on, R.oN, R.oi, R.oI, R.f3, R.f7, R.p1_0, R.p3_2, R.p4_1, R.p4_3, R.p6_5, R.p8_6, R.p8_7, R.p8_4, R.p10_8, (fun _ => rfl), R.p12_10, R.p12_11⟩⟩
        · skip
          have e9 := R.k9 (hD 9 (by kernel_rfl))
          subst e9
          have n12 : Lb 12 = false := by
            cases q : Lb 12 with
            | false => rfl
            | true => have z := R.p12_10 (q); rw [hL] at z; cases z
          obtain ⟨a6, c6, e6⟩ := (R.oN (hD 4 (by kernel_rfl))).form
          rw [show ((newL s i) ++ [(⟨[], [], r1, r2, r3, r4, r5, [], [], s⟩ : Nw)]).length = i + 1 by rw [List.length_append, newL_len]; rfl] at e6
          subst e6
          have bx := R.bb hL n12
          have d1 := bx.c 1 (v := .slice va i vc) rfl
          have f1 := bx.fr 1
          have Y := (Only.refl (w.heap.size + 1) W).setCell 1 (.slice a6 (i + 1) c6)
          refine op_at rfl (fun K hK => ?_)
          go_simp
          refine hK _ _ ?_
          exact ⟨_, _, _, _, _, _, _, _, _, _, _, rfl, ⟨R.k0, R.k1, R.k2, R.k5, R.k6, R.k9, R.k11, (below_only R.kb Y R.kb.size (by have := HGB.out; have := HLO.out; omega)), (Nat.le_trans R.sz Y.size), (box_only R.br Y (by have := HGB.out; omega)), (fun q0 q1 => by cases q0), (fun _ _ => bx.put (c' := #[.int .i64 0, .slice a6 (i + 1) c6, .slice ua i uc]) 1 (.slice a6 (i + 1) c6) (by simp) rfl), (fun q => by rw [show upd Lb 10 12 = Lb 12 from rfl, n12] at q; cases q), (box_only R.bn Y HGN.out), (fun q0 => (R.on q0).apart (OnlyIn.of_only (lo := (w.heap.size + 1)) (hi := (w.heap.size + 1) + 1) Y (.inr ⟨Nat.le_refl _, Nat.lt_succ_self _⟩)) (.inr HGB.out.2)), (fun q0 => (R.oN q0).low Y HGB.out.2), (fun q0 => (R.oi q0).only Y (.inl HGB.out.2)), (fun q0 => (R.oI q0).only Y (.inl HGB.out.2)), (fun q0 q1 => (R.f3 q0 q1).only Y (Nat.lt_of_lt_of_le HGB.out.2 HL0.out)), (fun q0 q1 => (R.f7 q0 q1).only Y (Nat.lt_of_lt_of_le HGB.out.2 HL0.out)), R.p1_0, R.p3_2, R.p4_1, R.p4_3, R.p6_5, R.p8_6, R.p8_7, R.p8_4, (fun _ => hD 8 (by kernel_rfl)), (fun _ => hD 9 (by kernel_rfl)), (fun _ => rfl), R.p12_11⟩⟩
        · skip
          refine op_at rfl (fun K hK => ?_)
          go_simp
          refine hK _ _ ?_
          exact ⟨_, _, _, _, _, _, _, _, _, _, _, rfl, ⟨R.k0, R.k1, R.k2, R.k5, R.k6, R.k9, (fun _ => rfl), R.kb, R.sz, R.br, R.bb, R.b1, R.b2, R.bn, R.on, R.oN, R.oi, R.oI, R.f3, R.f7, R.p1_0, R.p3_2, R.p4_1, R.p4_3, R.p6_5, R.p8_6, R.p8_7, R.p8_4, R.p10_8, R.p10_9, R.p12_10, (fun _ => rfl)⟩⟩
        · skip
          have e11 := R.k11 (hD 11 (by kernel_rfl))
          subst e11
          obtain ⟨a6, c6, e6, _⟩ := (R.oI (hD 8 (by kernel_rfl))).form
          rw [show ((List.replicate i (0 : Int)) ++ [(0 : Int)]).length = i + 1 by simp] at e6
          subst e6
          have bx := R.b1 (hD 10 (by kernel_rfl)) hL
          have d1 := bx.c 2 (v := .slice ua i uc) rfl
          have f1 := bx.fr 2
          have Y := (Only.refl (w.heap.size + 1) W).setCell 2 (.slice a6 (i + 1) c6)
          refine op_at rfl (fun K hK => ?_)
          go_simp
          refine hK _ _ ?_
          exact ⟨_, _, _, _, _, _, _, _, _, _, _, rfl, ⟨R.k0, R.k1, R.k2, R.k5, R.k6, R.k9, R.k11, (below_only R.kb Y R.kb.size (by have := HGB.out; have := HLO.out; omega)), (Nat.le_trans R.sz Y.size), (box_only R.br Y (by have := HGB.out; omega)), (fun q0 q1 => by cases q1), (fun q0 q1 => by cases q1), (fun _ => bx.put (c' := #[.int .i64 0, u36, .slice a6 (i + 1) c6]) 2 (.slice a6 (i + 1) c6) (by simp) rfl), (box_only R.bn Y HGN.out), (fun q0 => (R.on q0).apart (OnlyIn.of_only (lo := (w.heap.size + 1)) (hi := (w.heap.size + 1) + 1) Y (.inr ⟨Nat.le_refl _, Nat.lt_succ_self _⟩)) (.inr HGB.out.2)), (fun q0 => (R.oN q0).low Y HGB.out.2), (fun q0 => (R.oi q0).only Y (.inl HGB.out.2)), (fun q0 => (R.oI q0).only Y (.inl HGB.out.2)), (fun q0 q1 => (R.f3 q0 q1).only Y (Nat.lt_of_lt_of_le HGB.out.2 HL0.out)), (fun q0 q1 => (R.f7 q0 q1).only Y (Nat.lt_of_lt_of_le HGB.out.2 HL0.out)), R.p1_0, R.p3_2, R.p4_1, R.p4_3, R.p6_5, R.p8_6, R.p8_7, R.p8_4, R.p10_8, R.p10_9, (fun _ => hD 10 (by kernel_rfl)), (fun _ => hD 11 (by kernel_rfl))⟩⟩
      case refine_2 =>
        intro Lb a' W hI hall
        obtain ⟨u32, u33, u34, u35, u36, u37, u38, u39, u40, u41, u42, rfl, R⟩ := hI
        have bx := R.b2 (hall 12)
        have br := R.br
        have ox := R.oN (hall 4)
        have ok := R.oI (hall 8)
        have kb := R.kb
        clear R hall
        have ex : newL s i ++ [(⟨[], [], r1, r2, r3, r4, r5, [], [], s⟩ : Nw)] = newL s (i + 1) := by rw [newL_succ, HX.out]
        have ez : List.replicate i (0 : Int) ++ [0] = List.replicate (i + 1) 0 := by rw [List.replicate_succ']
        rw [ex] at ox
        rw [ez] at ok
        obtain ⟨za, zc, e1⟩ := ox.form
        obtain ⟨ya, yc, e2, _⟩ := ok.form
        rw [newL_len] at e1
        rw [List.length_replicate] at e2
        subst e1 e2
        have BXs := hidIt bx
        have BRs := hidIt br
        have OXs := hidIt ox
        have OKs := hidIt ok
        have HBs := hidIt kb
        clear bx br ox ok kb ex ez
        go_wp2_with (fail)
        exact ⟨⟨i + 1, za, zc, ya, yc, by simp, by omega, BRs, BXs, OXs, OKs, HBs, hidIt (fun _ => by first | rfl | trivial)⟩, by simp [intOf]; omega⟩
    · have hin' : ¬ (i : Int) < (m : Int) := by omega
      obtain rfl : i = m := by omega
      have hk1 := HK1.out hm1
      subst hk1
      have er := N2.out rfl
      subst er
      have a0z := BX.out.c 0 (v := .int .i64 0) rfl
      have a1z := BX.out.c 1 (v := .slice va i vc) rfl
      have a2z := BX.out.c 2 (v := .slice ua i uc) rfl
      have c0z := BR.out.c 0 (v := .int .i64 0) rfl
      have c1z := BR.out.c 1 (v := .slice none 0 0) rfl
      have c2z := BR.out.c 2 (v := .slice none 0 0) rfl
      have z0z := BR.out.fr 0
      have z1z := BR.out.fr 1
      have z2z := BR.out.fr 2
      have RZ := hidIt ((((BR.out).put (c' := #[.int .i64 0, .slice none 0 0, .slice none 0 0]) 0 (.int .i64 0) (by simp) rfl).put (c' := #[.int .i64 0, .slice va i vc, .slice none 0 0]) 1 (.slice va i vc) (by simp) rfl).put (c' := #[.int .i64 0, .slice va i vc, .slice ua i uc]) 2 (.slice ua i uc) (by simp) rfl)
      have HZ := hidIt ((((HBx.out).setCell (p := ⟨w.heap.size, 0, none⟩) (Nat.le_refl _) (.int .i64 0)).setCell (p := ⟨w.heap.size, 1, none⟩) (Nat.le_refl _) (.slice va i vc)).setCell (p := ⟨w.heap.size, 2, none⟩) (Nat.le_refl _) (.slice ua i uc))
      have YZ := hidIt ((((Only.refl w.heap.size wr).setCell 0 (.int .i64 0)).setCell 1 (.slice va i vc)).setCell 2 (.slice ua i uc))
      have hsz : ((((wr).setCell ⟨w.heap.size, 0, none⟩ (.int .i64 0)).setCell ⟨w.heap.size, 1, none⟩ (.slice va i vc)).setCell ⟨w.heap.size, 2, none⟩ (.slice ua i uc)).heap.size = wr.heap.size := by simp [World.setCell]
      go_wp2_with (fail)
      generalize (((wr).setCell ⟨w.heap.size, 0, none⟩ (.int .i64 0)).setCell ⟨w.heap.size, 1, none⟩ (.slice va i vc)).setCell ⟨w.heap.size, 2, none⟩ (.slice ua i uc) = wz at RZ HZ YZ hsz ⊢
      clear a0z c0z z0z a1z c1z z1z a2z c2z z2z
      have q0c := RZ.out.c 0 (v := .int .i64 0) rfl
      have q1c := RZ.out.c 1 (v := .slice va i vc) rfl
      have q2c := RZ.out.c 2 (v := .slice ua i uc) rfl
      refine bodyPost_ret (v := .tuple #[.agg #[.int .i64 0, .slice va i vc, .slice ua i uc], .bool true]) (by simp [results, Try.results5, go_sem, q0c, q1c, q2c]) rfl ?_
      have OXz := hidIt (OX.out.low YZ.out (by omega))
      have OKz : Hid (Iv.Own wz (w.heap.size + 2) (.slice ua i uc) (List.replicate i 0)) := hidIt (OK.out.only YZ.out (.inl (by omega)))
      refine NcP.of (n := (va, i, vc)) (k := (ua, i, uc)) rfl ⟨OXz.out.done (by omega), OKz.out.mono (by omega), fun g hg => (World.ownsRow.lt OKz.out g hg).2⟩ HZ.out
end Go.Proofs.Ytgbnkkjjgodilaa.Kc
namespace Go.Proofs.Ytgbnkkjjgodilaa.Ns
open Go.ChangeShapes Go.WideShapes Go.ChangeAt Go.RowKit
open Go.Proofs.Ytgbnkkjjgodilaa.Vv (Sl sv hidIt)
open Go.Proofs.Ytgbnkkjjgodilaa.Nd (Nw RdN OwnN)
open Go.Proofs.Ytgbnkkjjgodilaa.Rp (OnlyIn own_apart row_in row_other)
set_option linter.unusedVariables false
open Go.Proofs.Ytgbnkkjjgodilaa.Nd (SmallN on)
def LstP (w : World) (L : List Nw) (e : Ending) (w' : World) : Prop := ∃ v, e = .returned v ∧ Own w' w.heap.size w'.heap.size v L ∧ Below w.heap.size w w'
theorem LstP.of {w w' : World} {L : List Nw} {e : Ending} {v : Value} (h : e = .returned v) (h1 : Own w' w.heap.size w'.heap.size v L) (h2 : Below w.heap.size w w') : LstP w L e w' := ⟨v, h, h1, h2⟩
theorem LstP.out {w w' : World} {L : List Nw} {e : Ending} (h : LstP w L e w') : ∃ v, e = .returned v ∧ Own w' w.heap.size w'.heap.size v L ∧ Below w.heap.size w w' := h
end Go.Proofs.Ytgbnkkjjgodilaa.Ns
namespace Go.Proofs.Ytgbnkkjjgodilaa.Kc
open Go.ChangeShapes Go.WideShapes Go.ChangeAt Go.RowKit
open Go.Proofs.Ytgbnkkjjgodilaa.Vv (Sl sv hidIt)
open Go.Proofs.Ytgbnkkjjgodilaa.Nd (Nw RdN OwnN ShortN SmallN)
set_option linter.unusedVariables false
open Go.Proofs.Ytgbnkkjjgodilaa.Nd (on)
/-- What szCluster says. -/
structure Le6 (c : Cw) (q l : Int) : Prop where
  le : q ≤ l
  sm : 0 ≤ q → SmallK c
set_option maxRecDepth 100000 in
set_option maxHeartbeats 8000000 in
theorem eq_same (c : Cw) (n k n' k' : Sl) (w : World) (h : RdK w c n k) (h' : RdK w c n' k') (hs : SmallK c) :
    Calls Try.prog 6 #[kv c n k, kv c n' k'] w fun en w' => en = .returned (.bool true) ∧ Below w.heap.size w w' := by
  obtain ⟨nw, ns, ck⟩ := c
  obtain ⟨n0, n1, n2⟩ := n
  obtain ⟨k0, k1, k2⟩ := k
  obtain ⟨x0, x1, x2⟩ := n'
  obtain ⟨y0, y1, y2⟩ := k'
  obtain ⟨z1, rN, cN, z2, rK, cK⟩ := h
  obtain ⟨z3, rN', _, z4, rK', _⟩ := h'
  obtain ⟨s1, s2, s3⟩ := hs
  simp only at z1 rN cN z2 rK cK z3 rN' z4 rK' s1 s2 s3
  have C1 := hidIt (fun W (r : Ns.Rd W n0 ns) (r' : Ns.Rd W x0 ns) => Ns.eqS_same n0 x0 n2 x2 ns W r r' cN (fun i hi => by have := (s2 i hi).g; omega))
  have C2 := hidIt (fun W (r : Iv.Rd W k0 ck) (r' : Iv.Rd W y0 ck) => Iv.eqInt64S_any k0 y0 k2 y2 ck W r r' (by omega))
  have RN := hidIt rN
  have RN' := hidIt rN'
  have RK := hidIt rK
  have RK' := hidIt rK'
  subst z1 z2 z3 z4
  clear rN rN' rK rK' s1 s2 s3 cN cK
  generalize ns.length = m1 at C1 ⊢
  generalize ck.length = m2 at C2 ⊢
  have hq : (nw != nw) = false := by simp
  have BA := hidIt ((Bo.Box.new w #[.int .i64 nw, .slice n0 m1 n2, .slice k0 m2 k2] 25).alloc (.cells #[.int .i64 nw, .slice x0 m1 x2, .slice y0 m2 y2] 25))
  have BB : Hid (Bo.Box ((w.alloc (.cells #[.int .i64 nw, .slice n0 m1 n2, .slice k0 m2 k2] 25)).alloc (.cells #[.int .i64 nw, .slice x0 m1 x2, .slice y0 m2 y2] 25)) (w.heap.size + 1) #[.int .i64 nw, .slice x0 m1 x2, .slice y0 m2 y2]) := hidIt (Bo.Box.newAt (by simp))
  have HB : Hid (Below w.heap.size w ((w.alloc (.cells #[.int .i64 nw, .slice n0 m1 n2, .slice k0 m2 k2] 25)).alloc (.cells #[.int .i64 nw, .slice x0 m1 x2, .slice y0 m2 y2] 25))) := hidIt (((Below.refl w.heap.size w).alloc (Nat.le_refl _) _).alloc (by simp) _)
  have a0 := BA.out.c 0 (v := .int .i64 nw) rfl
  have b0 := BB.out.c 0 (v := .int .i64 nw) rfl
  have a1 := BA.out.c 1 (v := .slice n0 m1 n2) rfl
  have b1 := BB.out.c 1 (v := .slice x0 m1 x2) rfl
  simp only [kv, kc, sv]
  go_enter Try.func6, Try.ntmps6
  go_wp2_with (fail)
  refine (C1.out _ (RN.out.kept HB.out) (RN'.out.kept HB.out)).mono ?_
  rintro en w1 ⟨rfl, k1⟩
  have HB1 := hidIt (on HB.out k1)
  have BA1 := hidIt (BA.out.kept k1)
  have BB1 := hidIt (BB.out.kept k1)
  clear k1 a0 b0 a1 b1 HB BA BB
  have a2 := BA1.out.c 2 (v := .slice k0 m2 k2) rfl
  have b2 := BB1.out.c 2 (v := .slice y0 m2 y2) rfl
  go_wp2_with (fail)
  refine (C2.out _ (RK.out.kept HB1.out) (RK'.out.kept HB1.out)).mono ?_
  rintro en w2 ⟨rfl, k1⟩
  have HB2 := hidIt (on HB1.out k1)
  clear k1
  go_wp2_with (fail)
  go_ret
  exact ⟨rfl, HB2.out⟩
end Go.Proofs.Ytgbnkkjjgodilaa.Kc
