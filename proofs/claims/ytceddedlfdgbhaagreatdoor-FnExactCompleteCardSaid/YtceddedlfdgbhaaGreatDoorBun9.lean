/-
  MembersOk of the specification.
  Merged of the specification; what two lists of Members come to.
  The program's MembersOk, Stronger, the copy.
  Where an Id stands among Members, by the program's search.
  What becomes of one Member by the program's table of functions, and of a list of them.
-/
import Derived.Test.YtceddedlfdgbhaaGreatDoorBun8
import Derived.Test.YtceddedlfdgbhaaGreatDoorBoxM
import Derived.Deep.LoopGhost
import Derived.Shelf.Abstract
import Derived.Laws.EntriesVeiled
namespace Go.Proofs.YtceddedlfdgbhaaGreatDoor.Mm
open Go.ChangeShapes Go.WideShapes Go.ChangeAt Go.RowKit
open Go.Proofs.YtceddedlfdgbhaaGreatDoor.Rc (BelowBy BelowBy.one wp_region_below calls_below calls_same)
open Go.Proofs.YtceddedlfdgbhaaGreatDoor.Mk (okE newB okBk look Ris)
set_option linter.unusedVariables false
def inB (n lo hi : Int) : Bool := decide (lo ≤ n) && decide (n ≤ hi)
theorem okE_eq (x : Rw) : okE (toE x) = (inB x.1 0 7 && (inB x.2.1 0 1000000 && inB x.2.2 0 2)) := by
  obtain ⟨a, b, c⟩ := x
  simp only [okE, toE, inB, Bool.and_assoc]
  rfl
set_option maxHeartbeats 2000000 in
theorem spec_l1In (n lo hi : Int) (w : World) : Calls Tryz.prog 32 #[.int .i64 n, .int .i64 lo, .int .i64 hi] w fun e w' => e = .returned (.bool (inB n lo hi)) ∧ w' = w := by
  unfold inB
  by_cases h : lo ≤ n
  · have h' : decide (lo ≤ n) = true := decide_eq_true h
    rw [h', Bool.true_and]
    go_enter Tryz.func32, Tryz.ntmps32
    go_wp2
    go_ret
    exact ⟨rfl, rfl⟩
  · have h' : decide (lo ≤ n) = false := decide_eq_false h
    rw [h', Bool.false_and]
    go_enter Tryz.func32, Tryz.ntmps32
    go_wp2
    go_ret
    exact ⟨rfl, rfl⟩
set_option maxHeartbeats 2000000 in
theorem spec_l9Time (n : Int) (w : World) : Calls Tryz.prog 19 #[.int .i64 n] w fun e w' => e = .returned (.bool (inB n 0 1000000)) ∧ w' = w := by
  have C := hidIt (fun W => spec_l1In n 0 1000000 W)
  go_enter Tryz.func19, Tryz.ntmps19
  go_wp2_with (fail)
  refine (C.out _).mono ?_
  rintro e w1 ⟨rfl, rfl⟩
  go_wp2_with (fail)
  go_ret
  exact ⟨rfl, rfl⟩
set_option maxRecDepth 100000 in
set_option maxHeartbeats 4000000 in
theorem spec_MembersOk (a : Option Addr) (cap : Nat) (L : List Rw) (w : World) (h : Rd w a L) (hl : L.length ≤ 9223372036854775807) :
    Calls Tryz.prog 34 #[.slice a L.length cap] w fun e w' => e = .returned (.bool (okBk (toB L))) ∧ Below w.heap.size w w' := by
  have N1 : Hid (¬ L.length ≤ 8 → okBk (toB L) = false) := hidIt book_no1
  have N2 : Hid (∀ i, i < L.length → okE (toE (rat L i)) = false → okBk (toB L) = false) := hidIt (fun i hi h => book_no2 hi h)
  have N3 : Hid (∀ i, i + 1 < L.length → ¬ kat L i < kat L (i + 1) → okBk (toB L) = false) := hidIt (fun i hi h => book_no3 hi h)
  have N4 : Hid (L.length ≤ 8 → (∀ i, i < L.length → okE (toE (rat L i)) = true) → (∀ i, i + 1 < L.length → kat L i < kat L (i + 1)) → okBk (toB L) = true) := hidIt book_yes
  generalize okBk (toB L) = r at N1 N2 N3 N4 ⊢
  have HR := hidIt h
  clear h
  generalize hn : L.length = m at *
  have HN := hidIt hn
  clear hn
  by_cases h80 : m ≤ 8
  · have h80' : ¬ (8 : Int) < (m : Int) := by omega
    go_enter Tryz.func34, Tryz.ntmps34
    go_wp2_with (fail)
    go_loopw [3] (fun y wx => ∃ i : Nat, y = .int .i64 i ∧ i ≤ m ∧ Hid (∀ j, j < i → okE (toE (rat L j)) = true) ∧ Hid (∀ j, j + 1 < i → kat L j < kat L (j + 1)) ∧ Hid (Below w.heap.size w wx)) (fun y _ => (m - intOf y).toNat)
    case atStart => exact ⟨0, rfl, by omega, hidIt (fun j hj => by omega), hidIt (fun j hj => by omega), hidIt (Below.refl _ _)⟩
    case round =>
      obtain ⟨i, rfl, hi, HO, HK, HB⟩ := hrel
      by_cases hin : i < m
      · have hin' : (i : Int) < (m : Int) := by omega
        have HRx := hidIt (HR.out.kept HB.out)
        obtain ⟨b, off, ea, c0, c1, c2⟩ := HRx.out.all (i := i) (by rw [HN.out]; exact hin)
        subst ea
        obtain ⟨ok, hok⟩ : ∃ ok, okE (toE (rat L i)) = ok := ⟨_, rfl⟩
        have HOK := hidIt hok
        rw [okE_eq] at hok
        have hkey : Hid (kat L i = (rat L i).1) := hidIt rfl
        generalize rat L i = x at c0 c1 c2 hok hkey
        obtain ⟨xi, xt, xs⟩ := x
        simp only at c0 c1 c2 hok hkey
        have C1 := hidIt (fun n lo hi W => spec_l1In n lo hi W)
        have C2 := hidIt (fun n W => spec_l9Time n W)
        obtain ⟨k1, e1⟩ : ∃ k, inB xi 0 7 = k := ⟨_, rfl⟩
        obtain ⟨k2, e2⟩ : ∃ k, inB xt 0 1000000 = k := ⟨_, rfl⟩
        obtain ⟨k3, e3⟩ : ∃ k, inB xs 0 2 = k := ⟨_, rfl⟩
        rw [e1, e2, e3] at hok
        have BX := hidIt (Bo.Box.new wr #[.int .i64 xi, .int .i64 xt, .int .i64 xs] 102)
        have HBz := hidIt (HB.out.alloc HB.out.size (.cells #[.int .i64 xi, .int .i64 xt, .int .i64 xs] 102))
        have HRz := hidIt (HRx.out.alloc (.cells #[.int .i64 xi, .int .i64 xt, .int .i64 xs] 102))
        cases ok with
        | false =>
          have er := N2.out i hin HOK.out
          subst er
          go_wp2_with (fail)
          generalize wr.alloc (.cells #[.int .i64 xi, .int .i64 xt, .int .i64 xs] 102) = wz at BX HBz HRz ⊢
          haveI := BelowBy.one wz
          have g0 := fun p : BelowBy wz => p.cell (BX.out.c 0 rfl)
          have g1 := fun p : BelowBy wz => p.cell (BX.out.c 1 rfl)
          have g2 := fun p : BelowBy wz => p.cell (BX.out.c 2 rfl)
          cases k1 <;> cases k2 <;> cases k3 <;> simp only [Bool.and_true, Bool.and_false, Bool.true_eq_false] at hok
          all_goals
            refine wp_region_below (by kernel_rfl) (by kernel_rfl) ?_
            repeat (go_big_quiet_step (first | (go_at_call 32; refine calls_same (C1.out _ _ _ _)) | (go_at_call 19; refine calls_same (C2.out _ _))))
            refine wpQuiet_nil ?_
            intro _ hw'
            obtain ⟨pq, rfl⟩ := hw'
            have HB1 := hidIt (HBz.out.trans (pq.h.mono HBz.out.size))
            generalize pq.world = w2 at HB1 ⊢
            clear g0 g1 g2
            go_wp2_with (fail)
            go_ret
            exact ⟨rfl, HB1.out⟩
        | true =>
          obtain ⟨rfl, rfl, rfl⟩ : k1 = true ∧ k2 = true ∧ k3 = true := by cases k1 <;> cases k2 <;> cases k3 <;> simp_all
          have HO' : Hid (∀ j, j < i + 1 → okE (toE (rat L j)) = true) := hidIt (fun j hj => by
            rcases Nat.lt_succ_iff_lt_or_eq.1 hj with h | h
            · exact HO.out j h
            · subst h; exact HOK.out)
          clear hok
          rcases Nat.eq_zero_or_pos i with hz | hp
          · subst hz
            simp only [Nat.zero_mul, Nat.add_zero] at c0 c1 c2
            go_wp2_with (fail)
            generalize wr.alloc (.cells #[.int .i64 xi, .int .i64 xt, .int .i64 xs] 102) = wz at BX HBz HRz ⊢
            haveI := BelowBy.one wz
            have g0 := fun p : BelowBy wz => p.cell (BX.out.c 0 rfl)
            have g1 := fun p : BelowBy wz => p.cell (BX.out.c 1 rfl)
            have g2 := fun p : BelowBy wz => p.cell (BX.out.c 2 rfl)
            refine wp_region_below (by kernel_rfl) (by kernel_rfl) ?_
            repeat (go_big_quiet_step (first | (go_at_call 32; refine calls_same (C1.out _ _ _ _)) | (go_at_call 19; refine calls_same (C2.out _ _))))
            refine wpQuiet_nil ?_
            intro _ hw'
            obtain ⟨pq, rfl⟩ := hw'
            have HB1 := hidIt (HBz.out.trans (pq.h.mono HBz.out.size))
            generalize pq.world = w2 at HB1 ⊢
            clear g0 g1 g2
            go_wp2_with (fail)
            exact ⟨⟨1, by simp, by omega, HO', hidIt (fun j hj => by omega), HB1⟩, by simp [intOf]; omega⟩
          · obtain ⟨j, rfl⟩ : ∃ j, i = j + 1 := ⟨i - 1, by omega⟩
            have hpos : (0 : Int) < ((j : Int) + 1) := by omega
            have hj8 : (j : Int) ≤ 8 := by omega
            have hj0 : (0 : Int) ≤ (j : Int) := by omega
            obtain ⟨pk, epk⟩ : ∃ pk, (rat L j).1 = pk := ⟨_, rfl⟩
            have hkj : Hid (kat L j = pk) := hidIt epk
            have EPK := hidIt epk
            clear epk
            go_wp2_with (fail)
            generalize wr.alloc (.cells #[.int .i64 xi, .int .i64 xt, .int .i64 xs] 102) = wz at BX HBz HRz ⊢
            haveI := BelowBy.one wz
            have g0 := fun p : BelowBy wz => p.cell (BX.out.c 0 rfl)
            have g1 := fun p : BelowBy wz => p.cell (BX.out.c 1 rfl)
            have g2 := fun p : BelowBy wz => p.cell (BX.out.c 2 rfl)
            obtain ⟨b', off', ea2, q0, _⟩ := HRz.out.all (i := j) (by rw [HN.out]; omega)
            cases ea2
            rw [EPK.out] at q0
            have k0 := fun p : BelowBy wz => p.cell q0
            clear q0
            by_cases hlt : pk < xi
            · have hd : decide (xi ≤ pk) = false := decide_eq_false (by omega)
              have HK' : Hid (∀ q, q + 1 < j + 1 + 1 → kat L q < kat L (q + 1)) := hidIt (fun q hq => by
                rcases Nat.lt_succ_iff_lt_or_eq.1 (show q + 1 < j + 1 + 1 from hq) with h | h
                · exact HK.out q h
                · have : q = j := by omega
                  subst this
                  rw [hkj.out, hkey.out]
                  exact hlt)
              clear hlt
              refine wp_region_below (by kernel_rfl) (by kernel_rfl) ?_
              repeat (go_big_quiet_step (first | (go_at_call 32; refine calls_same (C1.out _ _ _ _)) | (go_at_call 19; refine calls_same (C2.out _ _))))
              refine wpQuiet_nil ?_
              intro _ hw'
              obtain ⟨pq, rfl⟩ := hw'
              have HB1 := hidIt (HBz.out.trans (pq.h.mono HBz.out.size))
              generalize pq.world = w2 at HB1 ⊢
              clear g0 g1 g2 k0
              go_wp2_with (fail)
              exact ⟨⟨j + 1 + 1, by simp, by omega, HO', HK', HB1⟩, by simp [intOf]; omega⟩
            · have er := N3.out j (by omega) (by rw [hkj.out, hkey.out]; omega)
              have hd : decide (xi ≤ pk) = true := decide_eq_true (by omega)
              subst er
              clear hlt
              refine wp_region_below (by kernel_rfl) (by kernel_rfl) ?_
              repeat (go_big_quiet_step (first | (go_at_call 32; refine calls_same (C1.out _ _ _ _)) | (go_at_call 19; refine calls_same (C2.out _ _))))
              refine wpQuiet_nil ?_
              intro _ hw'
              obtain ⟨pq, rfl⟩ := hw'
              have HB1 := hidIt (HBz.out.trans (pq.h.mono HBz.out.size))
              generalize pq.world = w2 at HB1 ⊢
              clear g0 g1 g2 k0
              go_wp2_with (fail)
              go_ret
              exact ⟨rfl, HB1.out⟩
      · have hin' : ¬ (i : Int) < (m : Int) := by omega
        have HI : Hid (i = m) := hidIt (by omega)
        have er := N4.out h80 (fun j hj => HO.out j (by have := HI.out; omega)) (fun j hj => HK.out j (by have := HI.out; omega))
        subst er
        go_wp2_with (fail)
        go_ret
        exact ⟨rfl, HB.out⟩
  · have h80' : (8 : Int) < (m : Int) := by omega
    have er := N1.out h80
    subst er
    go_enter Tryz.func34, Tryz.ntmps34
    go_wp2
    go_ret
    exact ⟨rfl, Below.refl _ _⟩
end Go.Proofs.YtceddedlfdgbhaaGreatDoor.Mm
namespace Go.Proofs.YtceddedlfdgbhaaGreatDoor.Mk
set_option linter.unusedVariables false
theorem ris_short : ∀ (L : List En) (lo : Int), Ris L → (∀ e ∈ L, lo ≤ e.key ∧ e.key ≤ 7) → L.length ≤ (8 - lo).toNat
  | [], lo, _, _ => by simp
  | a :: L, lo, h, k => by
    obtain ⟨h1, h2⟩ := ris_cons.1 h
    have ha := k a (List.mem_cons_self ..)
    have := ris_short L (a.key + 1) h2 (fun e he => ⟨by have := h1 e he; omega, (k e (List.mem_cons_of_mem _ he)).2⟩)
    simp only [List.length_cons]
    omega
theorem okE_key {e : En} (h : okE e = true) : 0 ≤ e.key ∧ e.key ≤ 7 := by
  unfold okE at h
  simp only [Bool.and_eq_true, decide_eq_true_eq] at h
  exact ⟨h.1.1.1.1.1, h.1.1.1.1.2⟩
/-- What Merged answers. -/
def mergeB (A B : List En) : List En := if okBk A = true ∧ okBk B = true then mergeE A B else []
theorem merge_no {A B : List En} (h : ¬ (okBk A = true ∧ okBk B = true)) : mergeB A B = [] := if_neg h
theorem merge_of {A B J : List En} (hA : okBk A = true) (hB : okBk B = true) (h : IsJoin A B J) : mergeB A B = J := by
  unfold mergeB
  rw [if_pos ⟨hA, hB⟩]
  exact (merge_join A B (ok_ris hA) (ok_ris hB)).unique h
theorem merge_is {A B : List En} (hA : okBk A = true) (hB : okBk B = true) : IsJoin A B (mergeB A B) := by
  unfold mergeB
  rw [if_pos ⟨hA, hB⟩]
  exact merge_join A B (ok_ris hA) (ok_ris hB)
/-- What is merged is right. -/
theorem merge_ok {A B J : List En} (hA : okBk A = true) (hB : okBk B = true) (h : IsJoin A B J) : okBk J = true := by
  have hall : ∀ e ∈ J, okE e = true := fun e he => by
    rcases h.mem he with q | q
    · exact ok_all hA q
    · exact ok_all hB q
  exact ok_mk (ris_short J 0 h.ris (fun e he => okE_key (hall e he))) hall h.ris
theorem mergeB_ok (A B : List En) : okBk (mergeB A B) = true := by
  by_cases h : okBk A = true ∧ okBk B = true
  · exact merge_ok h.1 h.2 (merge_is h.1 h.2)
  · rw [merge_no h]; rfl
end Go.Proofs.YtceddedlfdgbhaaGreatDoor.Mk
namespace Go.Proofs.YtceddedlfdgbhaaGreatDoor.Mm
open Go.ChangeShapes Go.WideShapes Go.ChangeAt Go.RowKit
open Go.Proofs.YtceddedlfdgbhaaGreatDoor.Mk (okE newB okBk look Ris IsJoin mergeB)
set_option linter.unusedVariables false
theorem merged_rows (A B : List Rw) : ∃ J : List Rw, toB J = mergeB (toB A) (toB B) := by
  by_cases h : okBk (toB A) = true ∧ okBk (toB B) = true
  · have j := Mk.merge_is h.1 h.2
    have all : ∀ M : List Mk.En, (∀ e ∈ M, e ∈ mergeB (toB A) (toB B)) → ∃ J : List Rw, toB J = M := by
      intro M
      induction M with
      | nil => intro _; exact ⟨[], rfl⟩
      | cons e M ih =>
        intro hM
        obtain ⟨J, hJ⟩ := ih (fun x hx => hM x (List.mem_cons_of_mem _ hx))
        obtain ⟨x, hx⟩ : ∃ x : Rw, toE x = e := by
          rcases j.mem (hM e (List.mem_cons_self ..)) with q | q
          · obtain ⟨x, _, hx⟩ := List.mem_map.1 q; exact ⟨x, hx⟩
          · obtain ⟨x, _, hx⟩ := List.mem_map.1 q; exact ⟨x, hx⟩
        exact ⟨x :: J, by rw [← hJ, ← hx]; rfl⟩
    exact all _ (fun e he => he)
  · exact ⟨[], by rw [Mk.merge_no h]; rfl⟩
end Go.Proofs.YtceddedlfdgbhaaGreatDoor.Mm
namespace Go.Proofs.YtceddedlfdgbhaaGreatDoor.Mm
open Go.ChangeShapes Go.WideShapes Go.ChangeAt Go.RowKit
open Go.Proofs.YtceddedlfdgbhaaGreatDoor.Rc (BelowBy BelowBy.one wp_region_below calls_below calls_same)
open Go.Proofs.YtceddedlfdgbhaaGreatDoor.Mk (okE newB okBk look Ris IsJoin mergeB)
set_option linter.unusedVariables false
set_option maxHeartbeats 2000000 in
theorem impl_memberIdOk (n : Int) (w : World) : Calls Tryz.prog 109 #[.int .i64 n] w fun e w' => e = .returned (.bool (inB n 0 7)) ∧ w' = w := by
  unfold inB
  rw [show decide (n ≤ 7) = decide (n < 8) from decide_eq_decide.2 (by omega)]
  by_cases h : 0 ≤ n
  · have h' : decide ((0 : Int) ≤ n) = true := decide_eq_true h
    rw [h', Bool.true_and]
    go_enter Tryz.func109, Tryz.ntmps109
    go_wp2
    go_ret
    exact ⟨rfl, rfl⟩
  · have h' : decide ((0 : Int) ≤ n) = false := decide_eq_false h
    rw [h', Bool.false_and]
    go_enter Tryz.func109, Tryz.ntmps109
    go_wp2
    go_ret
    exact ⟨rfl, rfl⟩
set_option maxHeartbeats 2000000 in
theorem impl_timeOk (n : Int) (w : World) : Calls Tryz.prog 25 #[.int .i64 n] w fun e w' => e = .returned (.bool (inB n 0 1000000)) ∧ w' = w := by
  unfold inB
  by_cases h : 0 ≤ n
  · have h' : decide ((0 : Int) ≤ n) = true := decide_eq_true h
    rw [h', Bool.true_and]
    go_enter Tryz.func25, Tryz.ntmps25
    go_wp2
    go_ret
    exact ⟨rfl, rfl⟩
  · have h' : decide ((0 : Int) ≤ n) = false := decide_eq_false h
    rw [h', Bool.false_and]
    go_enter Tryz.func25, Tryz.ntmps25
    go_wp2
    go_ret
    exact ⟨rfl, rfl⟩
set_option maxRecDepth 100000 in
set_option maxHeartbeats 4000000 in
theorem impl_memberOk (x : Rw) (w : World) : Calls Tryz.prog 94 #[rv x] w fun e w' => e = .returned (.bool (okE (toE x))) ∧ Below w.heap.size w w' := by
  rw [okE_eq]
  obtain ⟨a, b, c⟩ := x
  simp only
  have C1 := hidIt (fun W => impl_memberIdOk a W)
  have C2 := hidIt (fun W => impl_timeOk b W)
  generalize inB a 0 7 = k1 at C1 ⊢
  generalize inB b 0 1000000 = k2 at C2 ⊢
  unfold inB
  have HB := hidIt ((Below.refl w.heap.size w).alloc (Nat.le_refl _) (.cells #[.int .i64 a, .int .i64 b, .int .i64 c] 102))
  cases k1 with
  | false =>
    rw [Bool.false_and]
    go_enter Tryz.func94, Tryz.ntmps94
    go_wp2_with (fail)
    refine (C1.out _).mono ?_
    rintro e w1 ⟨rfl, rfl⟩
    go_wp2_with (fail)
    go_ret
    exact ⟨rfl, HB.out⟩
  | true =>
    rw [Bool.true_and]
    cases k2 with
    | false =>
      rw [Bool.false_and]
      go_enter Tryz.func94, Tryz.ntmps94
      go_wp2_with (fail)
      refine (C1.out _).mono ?_
      rintro e w1 ⟨rfl, rfl⟩
      go_wp2_with (fail)
      refine (C2.out _).mono ?_
      rintro e w1 ⟨rfl, rfl⟩
      go_wp2_with (fail)
      go_ret
      exact ⟨rfl, HB.out⟩
    | true =>
      rw [Bool.true_and]
      by_cases h : 0 ≤ c
      · have h' : decide ((0 : Int) ≤ c) = true := decide_eq_true h
        rw [h', Bool.true_and]
        go_enter Tryz.func94, Tryz.ntmps94
        go_wp2_with (fail)
        refine (C1.out _).mono ?_
        rintro e w1 ⟨rfl, rfl⟩
        go_wp2_with (fail)
        refine (C2.out _).mono ?_
        rintro e w1 ⟨rfl, rfl⟩
        go_wp2_with (fail)
        go_ret
        exact ⟨rfl, HB.out⟩
      · have h' : decide ((0 : Int) ≤ c) = false := decide_eq_false h
        rw [h', Bool.false_and]
        go_enter Tryz.func94, Tryz.ntmps94
        go_wp2_with (fail)
        refine (C1.out _).mono ?_
        rintro e w1 ⟨rfl, rfl⟩
        go_wp2_with (fail)
        refine (C2.out _).mono ?_
        rintro e w1 ⟨rfl, rfl⟩
        go_wp2_with (fail)
        go_ret
        exact ⟨rfl, HB.out⟩
theorem book_all {L : List Rw} (h2 : ∀ i, i < L.length → okE (toE (rat L i)) = true) (h3 : ∀ i, i + 1 < L.length → kat L i < kat L (i + 1)) : okBk (toB L) = true := by
  have hr := ris_of h3
  refine book_yes ?_ h2 h3
  have := Mk.ris_short (toB L) 0 hr (fun e he => by
    obtain ⟨x, hx, rfl⟩ := List.mem_map.1 he
    obtain ⟨i, hi, rfl⟩ := List.mem_iff_getElem.1 hx
    have := h2 i hi
    rw [rat_at hi] at this
    exact Mk.okE_key this)
  rw [List.length_map] at this
  exact this
set_option maxRecDepth 100000 in
set_option maxHeartbeats 4000000 in
theorem impl_MembersOk (a : Option Addr) (cap : Nat) (L : List Rw) (w : World) (h : Rd w a L) (hl : L.length ≤ 9223372036854775807) :
    Calls Tryz.prog 82 #[.slice a L.length cap] w fun e w' => e = .returned (.bool (okBk (toB L))) ∧ Below w.heap.size w w' := by
  have N2 : Hid (∀ i, i < L.length → okE (toE (rat L i)) = false → okBk (toB L) = false) := hidIt (fun i hi h => book_no2 hi h)
  have N3 : Hid (∀ i, i + 1 < L.length → ¬ kat L i < kat L (i + 1) → okBk (toB L) = false) := hidIt (fun i hi h => book_no3 hi h)
  have N4 : Hid ((∀ i, i < L.length → okE (toE (rat L i)) = true) → (∀ i, i + 1 < L.length → kat L i < kat L (i + 1)) → okBk (toB L) = true) := hidIt book_all
  generalize okBk (toB L) = r at N2 N3 N4 ⊢
  have HR := hidIt h
  clear h
  generalize hn : L.length = m at *
  have HN := hidIt hn
  clear hn
  go_enter Tryz.func82, Tryz.ntmps82
  go_wp2_with (fail)
  go_loopw [7] (fun y wx => ∃ i : Nat, y = .int .i64 i ∧ i ≤ m ∧ Hid (∀ j, j < i → okE (toE (rat L j)) = true) ∧ Hid (∀ j, j + 1 < i → kat L j < kat L (j + 1)) ∧ Hid (Below w.heap.size w wx)) (fun y _ => (m - intOf y).toNat)
  case atStart => exact ⟨0, rfl, by omega, hidIt (fun j hj => by omega), hidIt (fun j hj => by omega), hidIt (Below.refl _ _)⟩
  case round =>
    obtain ⟨i, rfl, hi, HO, HK, HB⟩ := hrel
    by_cases hin : i < m
    · have hin' : (i : Int) < (m : Int) := by omega
      have HRx := hidIt (HR.out.kept HB.out)
      obtain ⟨b, off, ea, c0, c1, c2⟩ := HRx.out.all (i := i) (by rw [HN.out]; exact hin)
      subst ea
      have CE := hidIt (fun W => impl_memberOk (rat L i) W)
      obtain ⟨ok, hok⟩ : ∃ ok, okE (toE (rat L i)) = ok := ⟨_, rfl⟩
      rw [hok] at CE
      have HOK := hidIt hok
      clear hok
      have hkey : Hid (kat L i = (rat L i).1) := hidIt rfl
      generalize rat L i = x at c0 c1 c2 CE hkey
      obtain ⟨xi, xt, xs⟩ := x
      simp only [rv] at c0 c1 c2 CE hkey
      have BX := hidIt (Bo.Box.new wr #[.int .i64 xi, .int .i64 xt, .int .i64 xs] 102)
      have HBz := hidIt (HB.out.alloc HB.out.size (.cells #[.int .i64 xi, .int .i64 xt, .int .i64 xs] 102))
      have HRz := hidIt (HRx.out.alloc (.cells #[.int .i64 xi, .int .i64 xt, .int .i64 xs] 102))
      cases ok with
      | false =>
        have er := N2.out i hin HOK.out
        subst er
        go_wp2_with (fail)
        generalize wr.alloc (.cells #[.int .i64 xi, .int .i64 xt, .int .i64 xs] 102) = wz at BX HBz HRz ⊢
        haveI := BelowBy.one wz
        have g0 := fun p : BelowBy wz => p.cell (BX.out.c 0 rfl)
        have g1 := fun p : BelowBy wz => p.cell (BX.out.c 1 rfl)
        have g2 := fun p : BelowBy wz => p.cell (BX.out.c 2 rfl)
        refine wp_region_below (by kernel_rfl) (by kernel_rfl) ?_
        repeat (go_big_quiet_step (first | (go_at_call 94; refine calls_below (CE.out _))))
        refine wpQuiet_nil ?_
        intro _ hw'
        obtain ⟨pq, rfl⟩ := hw'
        have HB1 := hidIt (HBz.out.trans (pq.h.mono HBz.out.size))
        generalize pq.world = w2 at HB1 ⊢
        clear g0 g1 g2
        go_wp2_with (fail)
        go_ret
        exact ⟨rfl, HB1.out⟩
      | true =>
        have HO' : Hid (∀ j, j < i + 1 → okE (toE (rat L j)) = true) := hidIt (fun j hj => by
          rcases Nat.lt_succ_iff_lt_or_eq.1 hj with h | h
          · exact HO.out j h
          · subst h; exact HOK.out)
        rcases Nat.eq_zero_or_pos i with hz | hp
        · subst hz
          simp only [Nat.zero_mul, Nat.add_zero] at c0 c1 c2
          go_wp2_with (fail)
          generalize wr.alloc (.cells #[.int .i64 xi, .int .i64 xt, .int .i64 xs] 102) = wz at BX HBz HRz ⊢
          haveI := BelowBy.one wz
          have g0 := fun p : BelowBy wz => p.cell (BX.out.c 0 rfl)
          have g1 := fun p : BelowBy wz => p.cell (BX.out.c 1 rfl)
          have g2 := fun p : BelowBy wz => p.cell (BX.out.c 2 rfl)
          refine wp_region_below (by kernel_rfl) (by kernel_rfl) ?_
          repeat (go_big_quiet_step (first | (go_at_call 94; refine calls_below (CE.out _))))
          refine wpQuiet_nil ?_
          intro _ hw'
          obtain ⟨pq, rfl⟩ := hw'
          have HB1 := hidIt (HBz.out.trans (pq.h.mono HBz.out.size))
          generalize pq.world = w2 at HB1 ⊢
          clear g0 g1 g2
          go_wp2_with (fail)
          exact ⟨⟨1, by simp, by omega, HO', hidIt (fun j hj => by omega), HB1⟩, by simp [intOf]; omega⟩
        · obtain ⟨j, rfl⟩ : ∃ j, i = j + 1 := ⟨i - 1, by omega⟩
          have hpos : (0 : Int) < ((j : Int) + 1) := by omega
          have hj8 : (j : Int) ≤ 9223372036854775806 := by omega
          have hj0 : (0 : Int) ≤ (j : Int) := by omega
          obtain ⟨pk, epk⟩ : ∃ pk, (rat L j).1 = pk := ⟨_, rfl⟩
          have hkj : Hid (kat L j = pk) := hidIt epk
          have EPK := hidIt epk
          clear epk
          go_wp2_with (fail)
          generalize wr.alloc (.cells #[.int .i64 xi, .int .i64 xt, .int .i64 xs] 102) = wz at BX HBz HRz ⊢
          haveI := BelowBy.one wz
          have g0 := fun p : BelowBy wz => p.cell (BX.out.c 0 rfl)
          have g1 := fun p : BelowBy wz => p.cell (BX.out.c 1 rfl)
          have g2 := fun p : BelowBy wz => p.cell (BX.out.c 2 rfl)
          obtain ⟨b', off', ea2, q0, _⟩ := HRz.out.all (i := j) (by rw [HN.out]; omega)
          cases ea2
          rw [EPK.out] at q0
          have k0 := fun p : BelowBy wz => p.cell q0
          clear q0
          by_cases hlt : pk < xi
          · have hd : decide (xi ≤ pk) = false := decide_eq_false (by omega)
            have HK' : Hid (∀ q, q + 1 < j + 1 + 1 → kat L q < kat L (q + 1)) := hidIt (fun q hq => by
              rcases Nat.lt_succ_iff_lt_or_eq.1 (show q + 1 < j + 1 + 1 from hq) with h | h
              · exact HK.out q h
              · have : q = j := by omega
                subst this
                rw [hkj.out, hkey.out]
                exact hlt)
            clear hlt
            refine wp_region_below (by kernel_rfl) (by kernel_rfl) ?_
            repeat (go_big_quiet_step (first | (go_at_call 94; refine calls_below (CE.out _))))
            refine wpQuiet_nil ?_
            intro _ hw'
            obtain ⟨pq, rfl⟩ := hw'
            have HB1 := hidIt (HBz.out.trans (pq.h.mono HBz.out.size))
            generalize pq.world = w2 at HB1 ⊢
            clear g0 g1 g2 k0
            go_wp2_with (fail)
            exact ⟨⟨j + 1 + 1, by simp, by omega, HO', HK', HB1⟩, by simp [intOf]; omega⟩
          · have er := N3.out j (by omega) (by rw [hkj.out, hkey.out]; omega)
            have hd : decide (xi ≤ pk) = true := decide_eq_true (by omega)
            subst er
            clear hlt
            refine wp_region_below (by kernel_rfl) (by kernel_rfl) ?_
            repeat (go_big_quiet_step (first | (go_at_call 94; refine calls_below (CE.out _))))
            refine wpQuiet_nil ?_
            intro _ hw'
            obtain ⟨pq, rfl⟩ := hw'
            have HB1 := hidIt (HBz.out.trans (pq.h.mono HBz.out.size))
            generalize pq.world = w2 at HB1 ⊢
            clear g0 g1 g2 k0
            go_wp2_with (fail)
            go_ret
            exact ⟨rfl, HB1.out⟩
    · have hin' : ¬ (i : Int) < (m : Int) := by omega
      have HI : Hid (i = m) := hidIt (by omega)
      have er := N4.out (fun j hj => HO.out j (by have := HI.out; omega)) (fun j hj => HK.out j (by have := HI.out; omega))
      subst er
      go_wp2_with (fail)
      go_ret
      exact ⟨rfl, HB.out⟩
end Go.Proofs.YtceddedlfdgbhaaGreatDoor.Mm
namespace Go.Proofs.YtceddedlfdgbhaaGreatDoor.Mm
open Go.ChangeShapes Go.WideShapes Go.ChangeAt Go.RowKit
open Go.Proofs.YtceddedlfdgbhaaGreatDoor.Mk (okE newB okBk look Ris IsJoin mergeB)
set_option linter.unusedVariables false
def cmpN (n m : Int) : Int := if n < m then -1 else if m < n then 1 else 0
theorem cmpN_lt (n m : Int) : decide (cmpN n m < 0) = decide (n < m) := by
  unfold cmpN
  split
  · rename_i h; simp [h]
  · rename_i h
    split
    · simp [h]
    · simp [h]
theorem cmpN_eq (n m : Int) : (cmpN n m == 0) = decide (n = m) := by
  unfold cmpN
  split
  · rename_i h; rw [decide_eq_false (by omega)]; rfl
  · rename_i h
    split
    · rename_i k; rw [decide_eq_false (by omega)]; rfl
    · rename_i k; rw [decide_eq_true (by omega)]; rfl
/-- Where an Id stands, or would. -/
structure At (L : List Rw) (id : Int) (k : Nat) (is : Bool) : Prop where
  le : k ≤ L.length
  lo : ∀ t, t < k → kat L t < id
  hi : k < L.length → ¬ kat L k < id
  yes : is = true → k < L.length ∧ kat L k = id
  no : is = false → k < L.length → kat L k ≠ id
/-- What the search comes to. -/
def PlcR (L : List Rw) (id : Int) (w : World) (e : Ending) (w' : World) : Prop := ∃ (k : Nat) (is : Bool), e = .returned (.tuple #[.int .i64 k, .bool is]) ∧ At L id k is ∧ Below w.heap.size w w'
theorem PlcR.of {L : List Rw} {id : Int} {w w' : World} {e : Ending} (k : Nat) (is : Bool) (h : e = .returned (.tuple #[.int .i64 k, .bool is])) (h1 : At L id k is) (h2 : Below w.heap.size w w') : PlcR L id w e w' := ⟨k, is, h, h1, h2⟩
theorem PlcR.out {L : List Rw} {id : Int} {w w' : World} {e : Ending} (h : PlcR L id w e w') : ∃ (k : Nat) (is : Bool), e = .returned (.tuple #[.int .i64 k, .bool is]) ∧ At L id k is ∧ Below w.heap.size w w' := h
end Go.Proofs.YtceddedlfdgbhaaGreatDoor.Mm
namespace Go.Proofs.YtceddedlfdgbhaaGreatDoor.Mm
open Go.ChangeShapes Go.WideShapes Go.ChangeAt Go.RowKit
open Go.Proofs.YtceddedlfdgbhaaGreatDoor.Rc (BelowBy BelowBy.one wp_region_below calls_below calls_same)
open Go.Proofs.YtceddedlfdgbhaaGreatDoor.Mk (okE newB okBk look Ris IsJoin mergeB)
set_option linter.unusedVariables false
abbrev fn (f : Nat) : Value := .func (.func f) #[] #[]
/-- Back, of one. -/
def revB (x : Rw) : Bool := decide (x.2.1 ≠ 1000000)
def revN (x : Rw) : Rw := if x.2.1 = 1000000 then x else (x.1, x.2.1 + 1, 0)
end Go.Proofs.YtceddedlfdgbhaaGreatDoor.Mm
