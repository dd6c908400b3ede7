/-
  changed of the program: one Member becomes what the table says.
-/
import Derived.Test.YtlcbapijpdlolabMbL
import Derived.Test.YtlcbapijpdlolabMbB
namespace Go.Proofs.Ytlcbapijpdlolab.Mm
open Go.ChangeShapes Go.WideShapes Go.ChangeAt Go.RowKit
open Go.Proofs.Ytlcbapijpdlolab.Rc (BelowBy BelowBy.one wp_region_below calls_below calls_same)
open Go.Proofs.Ytlcbapijpdlolab.Mk (okE newB okBk look Ris IsJoin mergeB backB upE)
set_option linter.unusedVariables false
/-- What becomes of a list where one of an Id becomes nx, if ch says so. -/
structure ChR (L : List Rw) (id : Int) (nx : Rw → Rw) (ch : Rw → Bool) (M : List Rw) (b : Bool) : Prop where
  no : okBk (toB L) = false → M = [] ∧ b = false
  yes : okBk (toB L) = true → ∀ k, k < L.length → kat L k = id → M = L.set k (nx (rat L k)) ∧ b = ch (rat L k)
  miss : okBk (toB L) = true → (∀ k, k < L.length → kat L k ≠ id) → M = L ∧ b = false
theorem ChR.mkNo {L : List Rw} {id : Int} {nx : Rw → Rw} {ch : Rw → Bool} (ok : okBk (toB L) = false) : ChR L id nx ch [] false where
  no := fun _ => ⟨rfl, rfl⟩
  yes := fun e => by rw [ok] at e; cases e
  miss := fun e => by rw [ok] at e; cases e
theorem ChR.mkMiss {L : List Rw} {id : Int} {nx : Rw → Rw} {ch : Rw → Bool} (ok : okBk (toB L) = true) (hn : ∀ k, k < L.length → kat L k ≠ id) : ChR L id nx ch L false where
  no := fun e => by rw [ok] at e; cases e
  yes := fun _ k hk e => absurd e (hn k hk)
  miss := fun _ _ => ⟨rfl, rfl⟩
theorem ChR.mkYes {L : List Rw} {id : Int} {nx : Rw → Rw} {ch : Rw → Bool} (ok : okBk (toB L) = true) (k : Nat) (hk : k < L.length) (e : kat L k = id) : ChR L id nx ch (L.set k (nx (rat L k))) (ch (rat L k)) where
  no := fun e => by rw [ok] at e; cases e
  yes := fun o k' hk' e' => by
    obtain rfl := one_id o hk hk' (e.trans e'.symm)
    exact ⟨rfl, rfl⟩
  miss := fun _ hn => absurd e (hn k hk)
def ChP (L : List Rw) (id : Int) (nx : Rw → Rw) (ch : Rw → Bool) (w : World) (e : Ending) (w' : World) : Prop := ∃ v M b, e = .returned (.tuple #[v, .bool b]) ∧ ChR L id nx ch M b ∧ Own w' w.heap.size v M ∧ Below w.heap.size w w'
theorem ChP.of {L : List Rw} {id : Int} {nx : Rw → Rw} {ch : Rw → Bool} {w w' : World} {e : Ending} {v : Value} {M : List Rw} {b : Bool} (h : e = .returned (.tuple #[v, .bool b])) (h1 : ChR L id nx ch M b) (h2 : Own w' w.heap.size v M) (h3 : Below w.heap.size w w') : ChP L id nx ch w e w' := ⟨v, M, b, h, h1, h2, h3⟩
theorem ChP.out {L : List Rw} {id : Int} {nx : Rw → Rw} {ch : Rw → Bool} {w w' : World} {e : Ending} (h : ChP L id nx ch w e w') : ∃ v M b, e = .returned (.tuple #[v, .bool b]) ∧ ChR L id nx ch M b ∧ Own w' w.heap.size v M ∧ Below w.heap.size w w' := h
theorem At.none {L : List Rw} {id : Int} {k : Nat} (hr : Ris (toB L)) (h : At L id k false) : ∀ j, j < L.length → kat L j ≠ id := by
  intro j hj
  rcases Nat.lt_trichotomy j k with q | q | q
  · have := h.lo j q; omega
  · subst q; exact h.no rfl hj
  · have h1 := h.hi (by omega)
    have r := hr
    unfold Ris at r
    rw [List.pairwise_iff_getElem] at r
    have := r k j (by rw [List.length_map]; omega) (by rw [List.length_map]; exact hj) q
    rw [List.getElem_map, List.getElem_map] at this
    simp only [toE] at this
    unfold kat at h1 ⊢
    rw [rat_at (by omega)] at h1
    rw [rat_at hj]
    omega
/-- The function that is picked for a State. -/
def selS (sel : Nat → Nat → Nat → Nat) (st : Int) : Nat := if st = 0 then sel 37 38 39 else if st = 1 then sel 38 40 39 else sel 38 38 39
theorem run_ix0 (W : World) : (Instr.index 51 (.agg #[fn 37, fn 38, fn 39, fn 38, fn 40, fn 39, fn 38, fn 38, fn 39]) (.int .i64 0)).run Try.prog W = .ok (.agg #[fn 37, fn 38, fn 39]) W := by kernel_rfl
theorem run_ix1 (W : World) : (Instr.index 51 (.agg #[fn 37, fn 38, fn 39, fn 38, fn 40, fn 39, fn 38, fn 38, fn 39]) (.int .i64 1)).run Try.prog W = .ok (.agg #[fn 38, fn 40, fn 39]) W := by kernel_rfl
theorem run_ix2 (W : World) : (Instr.index 51 (.agg #[fn 37, fn 38, fn 39, fn 38, fn 40, fn 39, fn 38, fn 38, fn 39]) (.int .i64 2)).run Try.prog W = .ok (.agg #[fn 38, fn 38, fn 39]) W := by kernel_rfl
attribute [local go_sem] run_ix0 run_ix1 run_ix2
set_option maxRecDepth 100000 in
set_option maxHeartbeats 8000000 in
theorem impl_changed (p : Nat) (sel : Nat → Nat → Nat → Nat) (nx : Rw → Rw) (ch : Rw → Bool) (egp : Enters Try.prog p)
    (hp : ∀ (f g h : Nat) (W : World), Calls Try.prog p #[.agg #[fn f, fn g, fn h]] W fun e w' => e = .returned (fn (sel f g h)) ∧ Below W.heap.size W w')
    (hq : ∀ x : Rw, okE (toE x) = true → Enters Try.prog (selS sel x.2.2) ∧ ∀ W, Calls Try.prog (selS sel x.2.2) #[rv x] W fun e w' => e = .returned (.tuple #[rv (nx x), .bool (ch x)]) ∧ Below W.heap.size W w')
    (a : Option Addr) (cap : Nat) (L : List Rw) (id : Int) (w : World) (h : Rd w a L) (hna : a = none → cap = 0) (hl : L.length ≤ 9223372036854775807) :
    Calls Try.prog 16 #[.slice a L.length cap, .int .i64 id, fn p] w fun e w' => ChP L id nx ch w e w' := by
  unfold Enters at egp
  have CO := hidIt (fun W (r : Rd W a L) => impl_MembersOk a cap L W r hl)
  have HR := hidIt h
  clear h
  cases ok : okBk (toB L) with
  | false =>
    rw [ok] at CO
    have HC : Hid (ChR L id nx ch [] false) := hidIt (ChR.mkNo ok)
    clear ok hp hq
    generalize L.length = m at *
    go_enter Try.func16, Try.ntmps16
    go_wp2_with (fail)
    refine (CO.out _ HR.out).mono ?_
    rintro e w1 ⟨rfl, k1⟩
    have HB1 := hidIt k1
    clear k1
    go_wp2_with (fail)
    refine bodyPost_ret (v := .tuple #[.slice (some ⟨w1.heap.size, 0, none⟩) 0 0, .bool false]) (by simp [results, Try.results16, go_sem]) rfl ?_
    exact ChP.of rfl HC.out ((Own.new w1).mono HB1.out.size) (HB1.out.alloc HB1.out.size _)
  | true =>
    rw [ok] at CO
    have l8 := Mk.ok_len ok
    rw [List.length_map] at l8
    have HRi := hidIt (Mk.ok_ris ok)
    have HOK := hidIt (fun i (hi : i < L.length) => Mk.ok_all ok (List.mem_map.2 ⟨_, rat_mem hi, rfl⟩ : toE (rat L i) ∈ toB L))
    have CC := hidIt (fun W (r : Rd W a L) => impl_copied a cap L W r hna (by omega))
    have CP := hidIt (fun g c W (r : Rd W (some ⟨g, 0, none⟩) L) => impl_placeOf (some ⟨g, 0, none⟩) c L id W r (by omega) HRi.out)
    have CS := hidIt impl_states
    have HCm := hidIt (fun (hn : ∀ k, k < L.length → kat L k ≠ id) => ChR.mkMiss (nx := nx) (ch := ch) ok hn)
    have HCy := hidIt (fun k (hk : k < L.length) (e : kat L k = id) => ChR.mkYes (nx := nx) (ch := ch) ok k hk e)
    have HP := hidIt hp
    have HQ := hidIt hq
    clear ok hp hq
    generalize hn : L.length = m at *
    have HN := hidIt hn
    clear hn
    go_enter Try.func16, Try.ntmps16
    go_wp2_with (fail)
    refine (CO.out _ HR.out).mono ?_
    rintro e w1 ⟨rfl, k1⟩
    have HB1 := hidIt k1
    clear k1
    go_wp2_with (fail)
    refine (CC.out _ (HR.out.kept HB1.out)).mono ?_
    intro e w2 hz
    obtain ⟨g, cp, rfl, hmc, hcm, o2, k2⟩ := hz.out
    have HB2 := hidIt (HB1.out.trans (k2.mono HB1.out.size))
    have HO2 := hidIt (o2.mono HB1.out.size)
    clear k2 o2 hz CC CO HR
    have HR2 : Hid (Rd w2 (some ⟨g, 0, none⟩) L) := hidIt (by
      obtain ⟨a', _, e1, _, _, r, _⟩ := HO2.out.form
      rw [(Value.slice.inj e1).1]
      exact r)
    go_wp2_with (fail)
    refine (CP.out g cp _ HR2.out).mono ?_
    intro e w3 hz
    obtain ⟨k, is, rfl, hk, k3⟩ := hz.out
    have HK := hidIt hk
    have HB3 := hidIt (HB2.out.trans (k3.mono HB2.out.size))
    have HO3 := hidIt (HO2.out.kept k3)
    clear hk k3 hz CP HR2 HO2 HB2 HB1
    cases is with
    | false =>
      have HC := hidIt (HCm.out (fun j hj => HK.out.none HRi.out j (by rw [HN.out]; exact hj)))
      go_wp2_with (fail)
      refine bodyPost_ret (v := .tuple #[.slice (some ⟨g, 0, none⟩) m cp, .bool false]) (by simp [results, Try.results16, go_sem]) rfl ?_
      exact ChP.of rfl HC.out HO3.out HB3.out
    | true =>
      have hkm : k < m := by rw [← HN.out]; exact (HK.out.yes rfl).1
      have HC := hidIt (HCy.out k hkm (HK.out.yes rfl).2)
      have hok := HOK.out k hkm
      have hkL : k < L.length := by rw [HN.out]; exact hkm
      have HWh := hidIt (fun (W : World) (o : Own W w.heap.size (.slice (some ⟨g, 0, none⟩) m cp) L) (y : Rw) => o.whole hkL y)
      have hgB : w.heap.size ≤ g := by obtain ⟨cur, h, _⟩ := own_row HO3.out; exact h
      have hgL : g < w3.heap.size := by obtain ⟨cur, _, h, _⟩ := own_row HO3.out; exact (Array.getElem?_eq_some_iff.1 h).1
      have AT := hidIt (fun W (o : Own W w.heap.size (.slice (some ⟨g, 0, none⟩) m cp) L) => (⟨o.at hkL (j := 0) (by omega), o.at hkL (j := 1) (by omega), o.at hkL (j := 2) (by omega)⟩ : W.cell? ⟨g, k * 3 + 0, none⟩ = some (rcell (rat L k) 0) ∧ W.cell? ⟨g, k * 3 + 1, none⟩ = some (rcell (rat L k) 1) ∧ W.cell? ⟨g, k * 3 + 2, none⟩ = some (rcell (rat L k) 2)))
      have hst : 0 ≤ (rat L k).2.2 ∧ (rat L k).2.2 ≤ 2 := by
        rw [okE_eq] at hok
        unfold inB at hok
        simp only [Bool.and_eq_true, decide_eq_true_eq] at hok
        exact hok.2.2
      have HQx := HQ.out (rat L k) hok
      clear hok HOK HQ HCm HCy HRi HK
      generalize rat L k = x at AT hst HQx HC
      obtain ⟨xi, xt, xs⟩ := x
      simp only [rcell, Nat.add_zero] at AT hst HQx HC
      generalize nx (xi, xt, xs) = y at HQx HC
      generalize ch (xi, xt, xs) = b at HQx HC
      obtain ⟨yi, yt, ys⟩ := y
      have hk' : (k : Int) < (m : Int) := by omega
      have hk0 : (0 : Int) ≤ (k : Int) := by omega
      have hs : xs = 0 ∨ xs = 1 ∨ xs = 2 := by omega
      clear hst
      rcases hs with rfl | rfl | rfl
      all_goals
        simp only [selS, if_true, if_false, Int.zero_ne_one, show ¬ ((1 : Int) = 0) by decide, show ¬ ((2 : Int) = 0) by decide, show ¬ ((2 : Int) = 1) by decide] at HQx
        have HPx := hidIt (HP.out)
        haveI := BelowBy.one w3
        obtain ⟨c0, c1, c2⟩ := AT.out w3 HO3.out
        have f0 := fun p : BelowBy w3 => p.cell c0
        have f1 := fun p : BelowBy w3 => p.cell c1
        have f2 := fun p : BelowBy w3 => p.cell c2
        obtain ⟨egq, hq⟩ := HQx
        have CQ := hidIt hq
        have EGQ := hidIt egq
        clear c0 c1 c2 hq egq
        go_wp2_with (fail)
        refine wp_region_below (by kernel_rfl) (by kernel_rfl) ?_
        repeat (go_big_quiet_step (first | (go_at_call 28; refine calls_below (CS.out _)) | (go_at_fn p; refine calls_below (HPx.out _ _ _ _))))
        refine wpQuiet_nil ?_
        intro _ hw'
        obtain ⟨pq, rfl⟩ := hw'
        have HB4 := hidIt (HB3.out.trans (pq.h.mono HB3.out.size))
        have HO4 := hidIt (HO3.out.kept pq.h)
        have hgL4 : g < pq.world.heap.size := Nat.lt_of_lt_of_le hgL pq.h.size
        generalize pq.world = w4 at HB4 HO4 hgL4 ⊢
        clear f0 f1 f2
        obtain ⟨c0, c1, c2⟩ := AT.out w4 HO4.out
        have egq := EGQ.out
        unfold Enters at egq
        go_wp2_with (fail)
        refine (CQ.out _).mono ?_
        rintro e w5 ⟨rfl, k5⟩
        have HB5 := hidIt (HB4.out.trans (k5.mono HB4.out.size))
        have HO5 := hidIt (HO4.out.kept k5)
        have hgL5 : g < w5.heap.size := Nat.lt_of_lt_of_le hgL4 k5.size
        clear k5 c0 c1 c2
        obtain ⟨c0, c1, c2⟩ := AT.out w5 HO5.out
        have q0 := HO5.out.free (k * 3)
        have q1 := HO5.out.free (k * 3 + 1)
        have q2 := HO5.out.free (k * 3 + 2)
        have hne : g ≠ w5.heap.size := by omega
        have HO6 := hidIt ((HWh.out _ HO5.out (yi, yt, ys)).alloc (.cells #[.int .i64 yi, .int .i64 yt, .int .i64 ys] 33))
        have HB6 := hidIt (((HB5.out.setCell (p := ⟨g, k * 3, none⟩) hgB (.int .i64 yi)).setCell (p := ⟨g, k * 3 + 1, none⟩) hgB (.int .i64 yt)).setCell (p := ⟨g, k * 3 + 2, none⟩) hgB (.int .i64 ys))
        have HB7 := hidIt (HB6.out.alloc HB6.out.size (.cells #[.int .i64 yi, .int .i64 yt, .int .i64 ys] 33))
        go_wp2_with (fail)
        refine bodyPost_ret (v := .tuple #[.slice (some ⟨g, 0, none⟩) m cp, .bool b]) (by simp [results, Try.results16, go_sem]) rfl ?_
        exact ChP.of rfl HC.out HO6.out HB7.out
end Go.Proofs.Ytlcbapijpdlolab.Mm
