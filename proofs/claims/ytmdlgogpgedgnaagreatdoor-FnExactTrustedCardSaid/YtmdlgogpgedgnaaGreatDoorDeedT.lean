/-
  Trusted of the specification.
-/
import Derived.Test.YtmdlgogpgedgnaaGreatDoorDeedD
import Derived.Test.YtmdlgogpgedgnaaGreatDoorDeedH
import Derived.Laws.StructEq
namespace Go.Proofs.YtmdlgogpgedgnaaGreatDoor.Dd
open Go.ChangeShapes Go.WideShapes Go.ChangeAt Go.RowKit
open Cv Cu Sg
open Go.Proofs.YtmdlgogpgedgnaaGreatDoor.Pt (Ln lat)
open Go.Proofs.YtmdlgogpgedgnaaGreatDoor.Bo (Box Box.new Box.newAt Box.kept Box.alloc Box.put Box.other Box.c Box.drew)
open Go.Proofs.YtmdlgogpgedgnaaGreatDoor.Nm (bs okB)
open Go.Proofs.YtmdlgogpgedgnaaGreatDoor.Rc (BelowBy wp_region_below calls_below calls_same)
set_option linter.unusedVariables false
def hasB (L : List Ln) (x y : Int) : Bool := decide ((x, y) ∈ L)
theorem has_yes {L : List Ln} {x y : Int} {i : Nat} (hi : i < L.length) (h : lat L i = (x, y)) : hasB L x y = true := by
  rw [lat_eq hi] at h
  exact decide_eq_true (h ▸ List.getElem_mem hi)
theorem has_no {L : List Ln} {x y : Int} (h : ∀ i, i < L.length → lat L i ≠ (x, y)) : hasB L x y = false := by
  refine decide_eq_false (fun hm => ?_)
  obtain ⟨i, hi, e⟩ := List.mem_iff_getElem.1 hm
  exact h i hi (by rw [lat_eq hi]; exact e)
set_option maxRecDepth 100000 in
set_option maxHeartbeats 4000000 in
theorem spec_l9Has (a : Option Addr) (cap : Nat) (L : List Ln) (x y : Int) (w : World) (h : Pt.Rd w a L) (hl : L.length ≤ 9223372036854775806) :
    Calls Tryz.prog 13 #[.slice a L.length cap, .agg #[.int .i64 x, .int .i64 y]] w fun e w' => e = .returned (.bool (hasB L x y)) ∧ Below w.heap.size w w' := by
  have hall : Hid (∀ i, i < L.length → lat L i = (x, y) → hasB L x y = true) := hidIt (fun i hi e => has_yes hi e)
  have hnone : Hid ((∀ i, i < L.length → lat L i ≠ (x, y)) → hasB L x y = false) := hidIt has_no
  generalize hasB L x y = r at hall hnone ⊢
  have HR := hidIt h
  clear h
  generalize hn : L.length = n at *
  have HN := hidIt hn
  clear hn
  have BA := hidIt (Box.new w #[.int .i64 x, .int .i64 y] 34)
  have HB0 := hidIt ((Below.refl w.heap.size w).alloc (Nat.le_refl _) (.cells #[.int .i64 x, .int .i64 y] 34))
  go_enter Tryz.func13, Tryz.ntmps13
  go_wp2_with (fail)
  go_loopw [5] (fun z wx => ∃ i : Nat, z = .int .i64 i ∧ i ≤ n ∧ Hid (∀ j, j < i → lat L j ≠ (x, y)) ∧ Hid (Below w.heap.size w wx) ∧ Hid (Box wx w.heap.size #[.int .i64 x, .int .i64 y])) (fun z _ => (n - intOf z).toNat)
  case atStart => exact ⟨0, rfl, by omega, hidIt (fun j hj => by omega), HB0, BA⟩
  case round =>
    obtain ⟨i, rfl, hi, HE, HB, HX⟩ := hrel
    rcases Nat.lt_or_ge i n with hin | hin
    · have g2 : (i : Int) < (n : Int) := by omega
      obtain ⟨b, off, rfl, c0, c1⟩ := (HR.out.kept HB.out).cell i (by rw [HN.out]; exact hin)
      have d0 := HX.out.c 0 (v := .int .i64 x) rfl
      have d1 := HX.out.c 1 (v := .int .i64 y) rfl
      have HB' := hidIt (fun k => Go.Proofs.YtmdlgogpgedgnaaGreatDoor.Below.drewN HB.out k)
      have HX' : Hid (∀ k, Box (wr.drewN k) w.heap.size #[.int .i64 x, .int .i64 y]) := hidIt (fun k => ⟨HX.out.lt, HX.out.at', HX.out.fr⟩)
      by_cases e : lat L i = (x, y)
      · have er := hall.out i hin e
        subst er
        rw [e] at c0 c1
        have e1 : (x == x) = true := by simp
        have e2 : (y == y) = true := by simp
        clear e
        go_wp2_with (fail)
        go_quiet (fail)
        go_wp2_with (fail)
        go_ret
        exact ⟨rfl, HB'.out _⟩
      · have HE' : Hid (∀ j, j < i + 1 → lat L j ≠ (x, y)) := hidIt (fun j hj => by
          rcases Nat.lt_succ_iff_lt_or_eq.1 hj with h | h
          · exact HE.out j h
          · subst h; exact e)
        generalize lat L i = p at *
        obtain ⟨px, py⟩ := p
        simp only at c0 c1
        by_cases e1 : px = x
        · subst e1
          have e2 : (py == y) = false := by simp; intro h; exact e (by rw [h])
          have e3 : (px == px) = true := by simp
          clear e
          go_wp2_with (fail)
          go_quiet (fail)
          go_wp2_with (fail)
          exact ⟨⟨i + 1, by simp, by omega, HE', hidIt (HB'.out _), hidIt (HX'.out _)⟩, by simp [intOf]; omega⟩
        · have e2 : (px == x) = false := by simpa using e1
          clear e e1
          go_wp2_with (fail)
          go_quiet (fail)
          go_wp2_with (fail)
          exact ⟨⟨i + 1, by simp, by omega, HE', hidIt (HB'.out _), hidIt (HX'.out _)⟩, by simp [intOf]; omega⟩
    · have g2 : ¬ (i : Int) < (n : Int) := by omega
      have e : i = n := by omega
      subst e
      have er := hnone.out HE.out
      subst er
      go_wp2_with (fail)
      go_ret
      exact ⟨rfl, HB.out⟩
def trustB (ds : Int) (z : ByteArray) (L : List Ln) (k1 k2 u r1 r2 t K1 K2 U R1 R2 T : Int) (s : ByteArray) (now : Int) : Bool :=
  !decide (L.length = 0) && (keysB L && (decide (0 ≤ dsB z k1 k2) && (decide (ds = dsB z k1 k2) &&
    (hasB L k1 k2 && (holdsB k1 k2 u r1 r2 t (z ++ Sg.blank ++ ktx L) now && (hasB L K1 K2 && holdsB K1 K2 U R1 R2 T s now))))))
theorem dsB_cases (z : ByteArray) (k1 k2 : Int) : (dsB z k1 k2 = -1) ∨ (0 ≤ dsB z k1 k2 ∧ z.size ≤ 60) := by
  cases h1 : okB (bs z) with
  | false => exact .inl (dsB_no (.inl h1))
  | true =>
    cases h2 : okI k1 k2 with
    | false => exact .inl (dsB_no (.inr h2))
    | true =>
      obtain ⟨x, y, rfl, rfl, hxy⟩ := okI_nat h2
      refine .inr ⟨?_, okB_size h1⟩
      rw [dsB_yes h1 h2]
      omega
set_option maxRecDepth 100000 in
set_option maxHeartbeats 8000000 in
theorem spec_Trusted (ds : Int) (z : ByteArray) (a : Option Addr) (cap : Nat) (L : List Ln) (k1 k2 u r1 r2 t K1 K2 U R1 R2 T : Int) (s : ByteArray) (now : Int) (w : World) (h : Pt.Rd w a L) (hl : L.length ≤ 9223372036854775806) (hs : s.size ≤ 4611686018427370000) :
    Calls Tryz.prog 5 #[.int .i64 ds, dv z (.slice a L.length cap) k1 k2 u r1 r2 t, sv K1 K2 U R1 R2 T, .string s, .int .i64 now] w fun e w' => e = .returned (.bool (trustB ds z L k1 k2 u r1 r2 t K1 K2 U R1 R2 T s now)) ∧ Below w.heap.size w w' := by
  have CK := hidIt (fun W h => spec_l9Keys a cap L W h hl)
  have CD := hidIt (fun W => spec_DsOf z (.slice a L.length cap) k1 k2 u r1 r2 t W ⟨_, _, _, rfl⟩)
  have CT : Hid (keysB L = true → ∀ W, Pt.Rd W a L → _) := hidIt (fun hk W h => spec_l9KeysText a cap L W h hk)
  have CA := hidIt (fun W h => spec_l9Has a cap L k1 k2 W h hl)
  have CB := hidIt (fun W h => spec_l9Has a cap L K1 K2 W h hl)
  have CE := hidIt (fun W => spec_Holds K1 K2 U R1 R2 T s now W hs)
  have CF : Hid (keysB L = true → z.size ≤ 60 → ∀ W, Calls Tryz.prog 14 #[sv k1 k2 u r1 r2 t, .string (z ++ ⟨#[32]⟩ ++ ktx L), .int .i64 now] W fun e w' => e = .returned (.bool (holdsB k1 k2 u r1 r2 t (z ++ Sg.blank ++ ktx L) now)) ∧ Below W.heap.size W w') := hidIt (fun hk hz W => spec_Holds k1 k2 u r1 r2 t (z ++ Sg.blank ++ ktx L) now W (by
    have h1 := keys_each hk
    have := ktx_size h1.2 L.length (Nat.le_refl _)
    rw [List.take_length] at this
    rw [ByteArray.size_append, ByteArray.size_append, Sg.blank_size]
    omega))
  have HK : Hid (keysB L = true → (ktx L).size ≤ 176) := hidIt (fun hk => by
    have h1 := keys_each hk
    have := ktx_size h1.2 L.length (Nat.le_refl _)
    rw [List.take_length] at this
    omega)
  have hds := dsB_cases z k1 k2
  have HR := hidIt h
  clear h
  unfold trustB
  generalize dsB z k1 k2 = D at hds CD ⊢
  generalize holdsB k1 k2 u r1 r2 t (z ++ Sg.blank ++ ktx L) now = hd at CF ⊢
  generalize holdsB K1 K2 U R1 R2 T s now = hq at CE ⊢
  generalize hasB L k1 k2 = ha at CA ⊢
  generalize hasB L K1 K2 = hb at CB ⊢
  generalize ktx L = tx at CT CF HK
  generalize keysB L = kb at CK CT CF HK ⊢
  generalize hn : L.length = n at *
  have BA : Hid (Box ((w.alloc (.cells (dc z (.slice a n cap) k1 k2 u r1 r2 t) 40)).alloc (.cells (sc K1 K2 U R1 R2 T) 38)) w.heap.size (dc z (.slice a n cap) k1 k2 u r1 r2 t)) := hidIt ((Box.new w _ _).alloc _)
  have BB : Hid (Box ((w.alloc (.cells (dc z (.slice a n cap) k1 k2 u r1 r2 t) 40)).alloc (.cells (sc K1 K2 U R1 R2 T) 38)) (w.heap.size + 1) (sc K1 K2 U R1 R2 T)) := hidIt (Box.newAt (by simp))
  have HB : Hid (Below w.heap.size w ((w.alloc (.cells (dc z (.slice a n cap) k1 k2 u r1 r2 t) 40)).alloc (.cells (sc K1 K2 U R1 R2 T) 38))) := hidIt (((Below.refl w.heap.size w).alloc (Nat.le_refl _) _).alloc (by simp) _)
  have bool0 : decide ((0 : Nat) = 0) = true := rfl
  by_cases h0 : n = 0
  · subst h0
    rw [decide_eq_true rfl]
    go_enter Tryz.func5, Tryz.ntmps5
    go_wp2_with (fail)
    go_ret
    exact ⟨rfl, HB.out⟩
  · have h0' : ((n : Int) == 0) = false := by simpa using h0
    rw [decide_eq_false h0]
    cases kb with
    | false =>
      go_enter Tryz.func5, Tryz.ntmps5
      go_wp2_with (fail)
      refine (CK.out _ (HR.out.kept HB.out)).mono ?_
      rintro e w1 ⟨rfl, k⟩
      replace BA := hidIt (BA.out.kept k)
      replace BB := hidIt (BB.out.kept k)
      replace HB := hidIt (HB.out.trans (k.mono HB.out.size))
      clear k
      go_wp2_with (fail)
      go_ret
      exact ⟨rfl, HB.out⟩
    | true =>
      replace CT := hidIt (CT.out rfl)
      replace HK := HK.out rfl
      rcases hds with hD | ⟨hD, hz⟩
      · subst hD
        go_enter Tryz.func5, Tryz.ntmps5
        go_wp2_with (fail)
        refine (CK.out _ (HR.out.kept HB.out)).mono ?_
        rintro e w1 ⟨rfl, k⟩
        replace BA := hidIt (BA.out.kept k)
        replace BB := hidIt (BB.out.kept k)
        replace HB := hidIt (HB.out.trans (k.mono HB.out.size))
        clear k
        have a0 := BA.out.c 0 (v := .string z) rfl
        have a1 := BA.out.c 1 (v := .slice a n cap) rfl
        have a2 := BA.out.c 2 (v := .int .i64 k1) rfl
        have a3 := BA.out.c 3 (v := .int .i64 k2) rfl
        have a4 := BA.out.c 4 (v := .int .i64 u) rfl
        have a5 := BA.out.c 5 (v := .int .i64 r1) rfl
        have a6 := BA.out.c 6 (v := .int .i64 r2) rfl
        have a7 := BA.out.c 7 (v := .int .i64 t) rfl
        go_wp2_with (fail)
        refine (CD.out _).mono ?_
        rintro e w2 ⟨rfl, k⟩
        replace BA := hidIt (BA.out.kept k)
        replace BB := hidIt (BB.out.kept k)
        replace HB := hidIt (HB.out.trans (k.mono HB.out.size))
        clear k
        clear a0 a1 a2 a3 a4 a5 a6 a7
        go_wp2_with (fail)
        go_ret
        exact ⟨rfl, HB.out⟩
      · have hD' : ¬ D < 0 := by omega
        have hD2 : decide (0 ≤ D) = true := decide_eq_true hD
        rw [hD2]
        replace CF := hidIt (CF.out rfl hz)
        by_cases hE : ds = D
        · subst hE
          rw [decide_eq_true (rfl : ds = ds)]
          have hne : (ds != ds) = false := by simp
          have q0 : (⟨#[32]⟩ : ByteArray).size = 1 := rfl
          have q1 : ¬ 9223372036854775807 < z.size + 1 := by omega
          have q2 : ¬ 9223372036854775807 < z.size + 1 + tx.size := by omega
          go_enter Tryz.func5, Tryz.ntmps5
          go_wp2_with (fail)
          refine (CK.out _ (HR.out.kept HB.out)).mono ?_
          rintro e w1 ⟨rfl, k⟩
          replace BA := hidIt (BA.out.kept k)
          replace BB := hidIt (BB.out.kept k)
          replace HB := hidIt (HB.out.trans (k.mono HB.out.size))
          clear k
          have a0 := BA.out.c 0 (v := .string z) rfl
          have a1 := BA.out.c 1 (v := .slice a n cap) rfl
          have a2 := BA.out.c 2 (v := .int .i64 k1) rfl
          have a3 := BA.out.c 3 (v := .int .i64 k2) rfl
          have a4 := BA.out.c 4 (v := .int .i64 u) rfl
          have a5 := BA.out.c 5 (v := .int .i64 r1) rfl
          have a6 := BA.out.c 6 (v := .int .i64 r2) rfl
          have a7 := BA.out.c 7 (v := .int .i64 t) rfl
          go_wp2_with (fail)
          refine (CD.out _).mono ?_
          rintro e w2 ⟨rfl, k⟩
          replace BA := hidIt (BA.out.kept k)
          replace BB := hidIt (BB.out.kept k)
          replace HB := hidIt (HB.out.trans (k.mono HB.out.size))
          clear k
          clear a0 a1 a2 a3 a4 a5 a6 a7
          have a0 := BA.out.c 0 (v := .string z) rfl
          have a1 := BA.out.c 1 (v := .slice a n cap) rfl
          have a2 := BA.out.c 2 (v := .int .i64 k1) rfl
          have a3 := BA.out.c 3 (v := .int .i64 k2) rfl
          have a4 := BA.out.c 4 (v := .int .i64 u) rfl
          have a5 := BA.out.c 5 (v := .int .i64 r1) rfl
          have a6 := BA.out.c 6 (v := .int .i64 r2) rfl
          have a7 := BA.out.c 7 (v := .int .i64 t) rfl
          go_wp2_with (fail)
          refine (CD.out _).mono ?_
          rintro e wz ⟨rfl, k⟩
          replace BA := hidIt (BA.out.kept k)
          replace BB := hidIt (BB.out.kept k)
          replace HB := hidIt (HB.out.trans (k.mono HB.out.size))
          clear k
          clear a0 a1 a2 a3 a4 a5 a6 a7
          go_upto_region 3 with fail
          generalize w.heap.size + 1 = n1 at *
          haveI := BelowBy.one wz
          have TP := hidIt (fun p : BelowBy wz => (HR.out.kept HB.out).kept p.h)
          have g0 := fun p : BelowBy wz => p.cell (BA.out.c 0 (v := .string z) rfl)
          have g1 := fun p : BelowBy wz => p.cell (BA.out.c 1 (v := .slice a n cap) rfl)
          have g2 := fun p : BelowBy wz => p.cell (BA.out.c 2 (v := .int .i64 k1) rfl)
          have g3 := fun p : BelowBy wz => p.cell (BA.out.c 3 (v := .int .i64 k2) rfl)
          have g4 := fun p : BelowBy wz => p.cell (BA.out.c 4 (v := .int .i64 u) rfl)
          have g5 := fun p : BelowBy wz => p.cell (BA.out.c 5 (v := .int .i64 r1) rfl)
          have g6 := fun p : BelowBy wz => p.cell (BA.out.c 6 (v := .int .i64 r2) rfl)
          have g7 := fun p : BelowBy wz => p.cell (BA.out.c 7 (v := .int .i64 t) rfl)
          have m0 := fun p : BelowBy wz => p.cell (BB.out.c 0 (v := .int .i64 K1) rfl)
          have m1 := fun p : BelowBy wz => p.cell (BB.out.c 1 (v := .int .i64 K2) rfl)
          have m2 := fun p : BelowBy wz => p.cell (BB.out.c 2 (v := .int .i64 U) rfl)
          have m3 := fun p : BelowBy wz => p.cell (BB.out.c 3 (v := .int .i64 R1) rfl)
          have m4 := fun p : BelowBy wz => p.cell (BB.out.c 4 (v := .int .i64 R2) rfl)
          have m5 := fun p : BelowBy wz => p.cell (BB.out.c 5 (v := .int .i64 T) rfl)
          cases ha with
          | false =>
            refine wp_region_below (by kernel_rfl) (by kernel_rfl) ?_
            repeat (go_big_quiet_step (first | (go_at_call 13; first | (with_reducible exact calls_below (CA.out _ (TP.out _))) | (with_reducible exact calls_below (CB.out _ (TP.out _)))) | (go_at_call 15; exact calls_below (CT.out _ (TP.out _))) | (go_at_call 14; first | (with_reducible exact calls_below (CF.out _)) | (with_reducible exact calls_below (CE.out _)))))
            refine wpQuiet_nil ?_
            intro _ hw'
            obtain ⟨pq, rfl⟩ := hw'
            have k2 := pq.h
            generalize pq.world = w2 at k2 ⊢
            replace HB := hidIt (HB.out.trans (k2.mono HB.out.size))
            clear k2 g0 g1 g2 g3 g4 g5 g6 g7 m0 m1 m2 m3 m4 m5
            go_wp2_with (fail)
            go_ret
            exact ⟨by first | rfl | (cases hq <;> rfl), HB.out⟩
          | true =>
            cases hd with
            | false =>
              refine wp_region_below (by kernel_rfl) (by kernel_rfl) ?_
              repeat (go_big_quiet_step (first | (go_at_call 13; first | (with_reducible exact calls_below (CA.out _ (TP.out _))) | (with_reducible exact calls_below (CB.out _ (TP.out _)))) | (go_at_call 15; exact calls_below (CT.out _ (TP.out _))) | (go_at_call 14; first | (with_reducible exact calls_below (CF.out _)) | (with_reducible exact calls_below (CE.out _)))))
              refine wpQuiet_nil ?_
              intro _ hw'
              obtain ⟨pq, rfl⟩ := hw'
              have k2 := pq.h
              generalize pq.world = w2 at k2 ⊢
              replace HB := hidIt (HB.out.trans (k2.mono HB.out.size))
              clear k2 g0 g1 g2 g3 g4 g5 g6 g7 m0 m1 m2 m3 m4 m5
              go_wp2_with (fail)
              go_ret
              exact ⟨by first | rfl | (cases hq <;> rfl), HB.out⟩
            | true =>
              cases hb with
              | false =>
                refine wp_region_below (by kernel_rfl) (by kernel_rfl) ?_
                repeat (go_big_quiet_step (first | (go_at_call 13; first | (with_reducible exact calls_below (CA.out _ (TP.out _))) | (with_reducible exact calls_below (CB.out _ (TP.out _)))) | (go_at_call 15; exact calls_below (CT.out _ (TP.out _))) | (go_at_call 14; first | (with_reducible exact calls_below (CF.out _)) | (with_reducible exact calls_below (CE.out _)))))
                refine wpQuiet_nil ?_
                intro _ hw'
                obtain ⟨pq, rfl⟩ := hw'
                have k2 := pq.h
                generalize pq.world = w2 at k2 ⊢
                replace HB := hidIt (HB.out.trans (k2.mono HB.out.size))
                clear k2 g0 g1 g2 g3 g4 g5 g6 g7 m0 m1 m2 m3 m4 m5
                go_wp2_with (fail)
                go_ret
                exact ⟨by first | rfl | (cases hq <;> rfl), HB.out⟩
              | true =>
                refine wp_region_below (by kernel_rfl) (by kernel_rfl) ?_
                repeat (go_big_quiet_step (first | (go_at_call 13; first | (with_reducible exact calls_below (CA.out _ (TP.out _))) | (with_reducible exact calls_below (CB.out _ (TP.out _)))) | (go_at_call 15; exact calls_below (CT.out _ (TP.out _))) | (go_at_call 14; first | (with_reducible exact calls_below (CF.out _)) | (with_reducible exact calls_below (CE.out _)))))
                refine wpQuiet_nil ?_
                intro _ hw'
                obtain ⟨pq, rfl⟩ := hw'
                have k2 := pq.h
                generalize pq.world = w2 at k2 ⊢
                replace HB := hidIt (HB.out.trans (k2.mono HB.out.size))
                clear k2 g0 g1 g2 g3 g4 g5 g6 g7 m0 m1 m2 m3 m4 m5
                go_wp2_with (fail)
                go_ret
                exact ⟨by first | rfl | (cases hq <;> rfl), HB.out⟩
        · have hne : (ds != D) = true := by simpa using hE
          rw [decide_eq_false hE]
          go_enter Tryz.func5, Tryz.ntmps5
          go_wp2_with (fail)
          refine (CK.out _ (HR.out.kept HB.out)).mono ?_
          rintro e w1 ⟨rfl, k⟩
          replace BA := hidIt (BA.out.kept k)
          replace BB := hidIt (BB.out.kept k)
          replace HB := hidIt (HB.out.trans (k.mono HB.out.size))
          clear k
          have a0 := BA.out.c 0 (v := .string z) rfl
          have a1 := BA.out.c 1 (v := .slice a n cap) rfl
          have a2 := BA.out.c 2 (v := .int .i64 k1) rfl
          have a3 := BA.out.c 3 (v := .int .i64 k2) rfl
          have a4 := BA.out.c 4 (v := .int .i64 u) rfl
          have a5 := BA.out.c 5 (v := .int .i64 r1) rfl
          have a6 := BA.out.c 6 (v := .int .i64 r2) rfl
          have a7 := BA.out.c 7 (v := .int .i64 t) rfl
          go_wp2_with (fail)
          refine (CD.out _).mono ?_
          rintro e w2 ⟨rfl, k⟩
          replace BA := hidIt (BA.out.kept k)
          replace BB := hidIt (BB.out.kept k)
          replace HB := hidIt (HB.out.trans (k.mono HB.out.size))
          clear k
          clear a0 a1 a2 a3 a4 a5 a6 a7
          have a0 := BA.out.c 0 (v := .string z) rfl
          have a1 := BA.out.c 1 (v := .slice a n cap) rfl
          have a2 := BA.out.c 2 (v := .int .i64 k1) rfl
          have a3 := BA.out.c 3 (v := .int .i64 k2) rfl
          have a4 := BA.out.c 4 (v := .int .i64 u) rfl
          have a5 := BA.out.c 5 (v := .int .i64 r1) rfl
          have a6 := BA.out.c 6 (v := .int .i64 r2) rfl
          have a7 := BA.out.c 7 (v := .int .i64 t) rfl
          go_wp2_with (fail)
          refine (CD.out _).mono ?_
          rintro e w3 ⟨rfl, k⟩
          replace BA := hidIt (BA.out.kept k)
          replace BB := hidIt (BB.out.kept k)
          replace HB := hidIt (HB.out.trans (k.mono HB.out.size))
          clear k
          clear a0 a1 a2 a3 a4 a5 a6 a7
          go_wp2_with (fail)
          go_ret
          exact ⟨rfl, HB.out⟩
end Go.Proofs.YtmdlgogpgedgnaaGreatDoor.Dd
