/-
  sealFault and Holds of the program.
-/
import Derived.Test.YtmdlgogpgedgnaaGreatDoorDeedI
import Derived.Test.YtmdlgogpgedgnaaGreatDoorSenM
namespace Go.Proofs.YtmdlgogpgedgnaaGreatDoor.Dd
open Go.ChangeShapes Go.WideShapes Go.ChangeAt Go.RowKit
open Cv Cu Sg
open Go.Proofs.YtmdlgogpgedgnaaGreatDoor.Bo (Box Box.new Box.newAt Box.kept Box.alloc Box.put Box.other Box.c Box.drew)
open Go.Proofs.YtmdlgogpgedgnaaGreatDoor.Ro (timB secB inB)
open Go.Proofs.YtmdlgogpgedgnaaGreatDoor.Rc (BelowBy wp_region_below calls_below calls_same)
set_option linter.unusedVariables false
abbrev keyS : ByteArray := ⟨#[75, 101, 121]⟩
theorem ne_key {p : ByteArray} {a : Addr} (h : p ≠ keyS) : ∀ x, some (p, a) = some x → x.1 ≠ keyS := fun x hx => by
  cases hx
  exact h
set_option maxRecDepth 100000 in
set_option maxHeartbeats 4000000 in
theorem impl_sealFault (K1 K2 u R1 R2 T : Int) (s : ByteArray) (now : Int) (eN eV eO : Addr) (w : World) (ht : Tab w) (hN : Se.At w 0 eN) (hV : Se.At w 3 eV) (hO : Se.At w 1 eO) (hs : s.size ≤ 4611686018427370000) :
    Calls Tryz.prog 50 #[sv K1 K2 u R1 R2 T, .string s, .int .i64 now] w fun e w' => ∃ v r, e = .returned v ∧ Se.Res w' v r ∧ r.isNone = holdsB K1 K2 u R1 R2 T s now ∧ (∀ x, r = some x → x.1 ≠ keyS) ∧ Below w.heap.size w w' := by
  have CU := hidIt (fun W => impl_timeOk u W)
  have CN := hidIt (fun W => impl_timeOk now W)
  have CX : Hid (timB u = true → ∀ W, Tab W → Calls Tryz.prog 66 #[.int .i64 u, .string s] W fun e w' => e = .returned (.string (stx u.toNat s)) ∧ Below W.heap.size W w') := hidIt (fun h W t => by
    obtain ⟨m, rfl, hm⟩ := tim_nat h
    exact impl_sealed m s W hm hs t)
  have CV : Hid (timB u = true → ∀ W, Tab W → Calls Tryz.prog 65 #[.agg #[.int .i64 K1, .int .i64 K2], .string (stx u.toNat s), .agg #[.int .i64 R1, .int .i64 R2, .int .i64 T]] W fun e w' => e = .returned (.bool (validB K1 K2 (stx u.toNat s) R1 R2 T)) ∧ Below W.heap.size W w') := hidIt (fun h W t => by
    obtain ⟨m, rfl, hm⟩ := tim_nat h
    exact impl_Valid_any K1 K2 (stx m s) R1 R2 T W t (by have := stx_size (u := m) (s := s) (by omega); omega))
  have BA := hidIt (Box.new w (sc K1 K2 u R1 R2 T) 38)
  have HB : Hid (Below w.heap.size w (w.alloc (.cells (sc K1 K2 u R1 R2 T) 38))) := hidIt ((Below.refl w.heap.size w).alloc (Nat.le_refl _) _)
  have cN := (hN.kept HB.out).c
  have cV := (hV.kept HB.out).c
  have HT := hidIt ht
  have HO := hidIt hO
  clear ht hN hV hO
  have c2 := BA.out.c 2 (v := .int .i64 u) rfl
  unfold holdsB
  generalize validB K1 K2 (stx u.toNat s) R1 R2 T = va at CV ⊢
  generalize stx u.toNat s = tx at CX CV
  cases hn : timB now with
  | false =>
    rw [hn] at CN
    clear hn
    go_enter Tryz.func50, Tryz.ntmps50
    go_wp2_with (go_at_call 64; refine (CN.out _).mono ?_; rintro e w1 ⟨rfl, rfl⟩)
    go_ret
    exact ⟨_, some (_, _), rfl, Se.Res.newAt (by simp), by simp, ne_key (by decide), HB.out.alloc HB.out.size _⟩
  | true =>
    rw [hn] at CN
    clear hn
    cases hu : timB u with
    | false =>
      rw [hu] at CU
      clear hu
      go_enter Tryz.func50, Tryz.ntmps50
      go_wp2_with (go_at_call 64; (first | (with_reducible refine (CN.out _).mono ?_) | (with_reducible refine (CU.out _).mono ?_)); rintro e w1 ⟨rfl, rfl⟩)
      go_ret
      exact ⟨_, some (_, _), rfl, Se.Res.newAt (by simp), by simp, ne_key (by decide), HB.out.alloc HB.out.size _⟩
    | true =>
      replace CX := hidIt (CX.out hu)
      replace CV := hidIt (CV.out hu)
      rw [hu] at CU
      clear hu
      by_cases hle : u ≤ now
      · have hd : decide (now < u) = false := decide_eq_false (by omega)
        rw [hd]
        clear hd
        go_enter Tryz.func50, Tryz.ntmps50
        go_wp2_with (go_at_call 64; (first | (with_reducible refine (CN.out _).mono ?_) | (with_reducible refine (CU.out _).mono ?_)); rintro e w1 ⟨rfl, rfl⟩)
        go_ret
        exact ⟨_, some (_, _), rfl, Se.Res.newAt (by simp), by simp, ne_key (by decide), HB.out.alloc HB.out.size _⟩
      · have hd : decide (now < u) = true := decide_eq_true (by omega)
        rw [hd]
        clear hd
        go_enter Tryz.func50, Tryz.ntmps50
        go_upto_region 7 with (go_at_call 64; (first | (with_reducible refine (CN.out _).mono ?_) | (with_reducible refine (CU.out _).mono ?_)); rintro e w1 ⟨rfl, rfl⟩)
        clear cN cV c2
        generalize w.alloc (.cells (sc K1 K2 u R1 R2 T) 38) = wz at BA HB ⊢
        haveI := BelowBy.one wz
        have g0 := fun p : BelowBy wz => p.cell (BA.out.c 0 (v := .int .i64 K1) rfl)
        have g1 := fun p : BelowBy wz => p.cell (BA.out.c 1 (v := .int .i64 K2) rfl)
        have g2 := fun p : BelowBy wz => p.cell (BA.out.c 2 (v := .int .i64 u) rfl)
        have g3 := fun p : BelowBy wz => p.cell (BA.out.c 3 (v := .int .i64 R1) rfl)
        have g4 := fun p : BelowBy wz => p.cell (BA.out.c 4 (v := .int .i64 R2) rfl)
        have g5 := fun p : BelowBy wz => p.cell (BA.out.c 5 (v := .int .i64 T) rfl)
        have TP := hidIt (fun p : BelowBy wz => (HT.out.kept HB.out).kept p.h)
        refine wp_region_below (by kernel_rfl) (by kernel_rfl) ?_
        repeat (go_big_quiet_step (first | (go_at_call 66; exact calls_below (CX.out _ (TP.out _))) | (go_at_call 65; exact calls_below (CV.out _ (TP.out _)))))
        refine wpQuiet_nil ?_
        intro _ hw'
        obtain ⟨pq, rfl⟩ := hw'
        have k2 := pq.h
        generalize pq.world = w2 at k2 ⊢
        replace HB := hidIt (HB.out.trans (k2.mono HB.out.size))
        clear k2 g0 g1 g2 g3 g4 g5
        have cO := (HO.out.kept HB.out).c
        cases va with
        | false =>
          go_wp2_with (fail)
          go_ret
          exact ⟨_, some (_, _), rfl, Se.Res.newAt (by simp), by simp, ne_key (by decide), HB.out.alloc HB.out.size _⟩
        | true =>
          go_wp2_with (fail)
          go_ret
          exact ⟨_, _, rfl, Se.Res.none _, by simp, (fun x hx => by cases hx), HB.out⟩
end Go.Proofs.YtmdlgogpgedgnaaGreatDoor.Dd
