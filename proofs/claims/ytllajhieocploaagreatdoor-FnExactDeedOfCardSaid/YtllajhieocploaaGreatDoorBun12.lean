/-
  MembersOk of the specification.
  Merged of the specification; what two lists of Members come to.
  The program's MembersOk, Stronger, the copy.
  Blocks of an interval alone have turned; rows of unlike elements lie apart.
  A list of Points as it lies in memory: two cells a Point; a row of the call's own.
-/
import Derived.Test.YtllajhieocploaaGreatDoorBun11
import Derived.Test.YtllajhieocploaaGreatDoorBoxM
import Derived.Test.YtllajhieocploaaGreatDoorMem
import Derived.Laws.OwnMore
import Derived.Deep.OwnRows
import Derived.OwnWalk
import Derived.Test.YtllajhieocploaaGreatDoorProg
import Derived.Laws.AppendOwn
import Derived.Lib.SmallJoins
namespace Go.Proofs.YtllajhieocploaaGreatDoor.Mm
open Go.ChangeShapes Go.WideShapes Go.ChangeAt Go.RowKit
open Go.Proofs.YtllajhieocploaaGreatDoor.Rc (BelowBy BelowBy.one wp_region_below calls_below calls_same)
open Go.Proofs.YtllajhieocploaaGreatDoor.Mk (okE newB okBk look Ris)
set_option linter.unusedVariables false
def inB (n lo hi : Int) : Bool := decide (lo ≤ n) && decide (n ≤ hi)
theorem okE_eq (x : Rw) : okE (toE x) = (inB x.1 0 7 && (inB x.2.1 0 1000000 && inB x.2.2 0 2)) := by
  obtain ⟨a, b, c⟩ := x
  simp only [okE, toE, inB, Bool.and_assoc]
  rfl
set_option maxHeartbeats 2000000 in
theorem spec_l1In (n lo hi : Int) (w : World) : Calls Tryz.prog 55 #[.int .i64 n, .int .i64 lo, .int .i64 hi] w fun e w' => e = .returned (.bool (inB n lo hi)) ∧ w' = w := by
  unfold inB
  by_cases h : lo ≤ n
  · have h' : decide (lo ≤ n) = true := decide_eq_true h
    rw [h', Bool.true_and]
    go_enter Tryz.func55, Tryz.ntmps55
    go_wp2
    go_ret
    exact ⟨rfl, rfl⟩
  · have h' : decide (lo ≤ n) = false := decide_eq_false h
    rw [h', Bool.false_and]
    go_enter Tryz.func55, Tryz.ntmps55
    go_wp2
    go_ret
    exact ⟨rfl, rfl⟩
set_option maxHeartbeats 2000000 in
theorem spec_l9Time (n : Int) (w : World) : Calls Tryz.prog 38 #[.int .i64 n] w fun e w' => e = .returned (.bool (inB n 0 1000000)) ∧ w' = w := by
  have C := hidIt (fun W => spec_l1In n 0 1000000 W)
  go_enter Tryz.func38, Tryz.ntmps38
  go_wp2_with (fail)
  refine (C.out _).mono ?_
  rintro e w1 ⟨rfl, rfl⟩
  go_wp2_with (fail)
  go_ret
  exact ⟨rfl, rfl⟩
set_option maxRecDepth 100000 in
set_option maxHeartbeats 4000000 in
theorem spec_MembersOk (a : Option Addr) (cap : Nat) (L : List Rw) (w : World) (h : Rd w a L) (hl : L.length ≤ 9223372036854775807) :
    Calls Tryz.prog 20 #[.slice a L.length cap] w fun e w' => e = .returned (.bool (okBk (toB L))) ∧ Below w.heap.size w w' := by
  have N1 : Hid (¬ L.length ≤ 8 → okBk (toB L) = false) := hidIt book_no1
  have N2 : Hid (∀ i, i < L.length → okE (toE (rat L i)) = false → okBk (toB L) = false) := hidIt (fun i hi h => book_no2 hi h)
  have N3 : Hid (∀ i, i + 1 < L.length → ¬ kat L i < kat L (i + 1) → okBk (toB L) = false) := hidIt (fun i hi h => book_no3 hi h)
  have N4 : Hid (L.length ≤ 8 → (∀ i, i < L.length → okE (toE (rat L i)) = true) → (∀ i, i + 1 < L.length → kat L i < kat L (i + 1)) → okBk (toB L) = true) := hidIt book_yes
  generalize okBk (toB L) = r at N1 N2 N3 N4 ⊢
  have HR := hidIt h
  clear h
  generalize hn : L.length = m at *
  have HN := hidIt hn
  clear hn
  by_cases h80 : m ≤ 8
  · have h80' : ¬ (8 : Int) < (m : Int) := by omega
    go_enter Tryz.func20, Tryz.ntmps20
    go_wp2_with (fail)
    go_loopw [3] (fun y wx => ∃ i : Nat, y = .int .i64 i ∧ i ≤ m ∧ Hid (∀ j, j < i → okE (toE (rat L j)) = true) ∧ Hid (∀ j, j + 1 < i → kat L j < kat L (j + 1)) ∧ Hid (Below w.heap.size w wx)) (fun y _ => (m - intOf y).toNat)
    case atStart => exact ⟨0, rfl, by omega, hidIt (fun j hj => by omega), hidIt (fun j hj => by omega), hidIt (Below.refl _ _)⟩
    case round =>
      obtain ⟨i, rfl, hi, HO, HK, HB⟩ := hrel
      by_cases hin : i < m
      · have hin' : (i : Int) < (m : Int) := by omega
        have HRx := hidIt (HR.out.kept HB.out)
        obtain ⟨b, off, ea, c0, c1, c2⟩ := HRx.out.all (i := i) (by rw [HN.out]; exact hin)
        subst ea
        obtain ⟨ok, hok⟩ : ∃ ok, okE (toE (rat L i)) = ok := ⟨_, rfl⟩
        have HOK := hidIt hok
        rw [okE_eq] at hok
        have hkey : Hid (kat L i = (rat L i).1) := hidIt rfl
        generalize rat L i = x at c0 c1 c2 hok hkey
        obtain ⟨xi, xt, xs⟩ := x
        simp only at c0 c1 c2 hok hkey
        have C1 := hidIt (fun n lo hi W => spec_l1In n lo hi W)
        have C2 := hidIt (fun n W => spec_l9Time n W)
        obtain ⟨k1, e1⟩ : ∃ k, inB xi 0 7 = k := ⟨_, rfl⟩
        obtain ⟨k2, e2⟩ : ∃ k, inB xt 0 1000000 = k := ⟨_, rfl⟩
        obtain ⟨k3, e3⟩ : ∃ k, inB xs 0 2 = k := ⟨_, rfl⟩
        rw [e1, e2, e3] at hok
        have BX := hidIt (Bo.Box.new wr #[.int .i64 xi, .int .i64 xt, .int .i64 xs] 100)
        have HBz := hidIt (HB.out.alloc HB.out.size (.cells #[.int .i64 xi, .int .i64 xt, .int .i64 xs] 100))
        have HRz := hidIt (HRx.out.alloc (.cells #[.int .i64 xi, .int .i64 xt, .int .i64 xs] 100))
        cases ok with
        | false =>
          have er := N2.out i hin HOK.out
          subst er
          go_wp2_with (fail)
          generalize wr.alloc (.cells #[.int .i64 xi, .int .i64 xt, .int .i64 xs] 100) = wz at BX HBz HRz ⊢
          haveI := BelowBy.one wz
          have g0 := fun p : BelowBy wz => p.cell (BX.out.c 0 rfl)
          have g1 := fun p : BelowBy wz => p.cell (BX.out.c 1 rfl)
          have g2 := fun p : BelowBy wz => p.cell (BX.out.c 2 rfl)
          cases k1 <;> cases k2 <;> cases k3 <;> simp only [Bool.and_true, Bool.and_false, Bool.true_eq_false] at hok
          all_goals
            refine wp_region_below (by kernel_rfl) (by kernel_rfl) ?_
            repeat (go_big_quiet_step (first | (go_at_call 55; refine calls_same (C1.out _ _ _ _)) | (go_at_call 38; refine calls_same (C2.out _ _))))
            refine wpQuiet_nil ?_
            intro _ hw'
            obtain ⟨pq, rfl⟩ := hw'
            have HB1 := hidIt (HBz.out.trans (pq.h.mono HBz.out.size))
            generalize pq.world = w2 at HB1 ⊢
            clear g0 g1 g2
            go_wp2_with (fail)
            go_ret
            exact ⟨rfl, HB1.out⟩
        | true =>
          obtain ⟨rfl, rfl, rfl⟩ : k1 = true ∧ k2 = true ∧ k3 = true := by cases k1 <;> cases k2 <;> cases k3 <;> simp_all
          have HO' : Hid (∀ j, j < i + 1 → okE (toE (rat L j)) = true) := hidIt (fun j hj => by
            rcases Nat.lt_succ_iff_lt_or_eq.1 hj with h | h
            · exact HO.out j h
            · subst h; exact HOK.out)
          clear hok
          rcases Nat.eq_zero_or_pos i with hz | hp
          · subst hz
            simp only [Nat.zero_mul, Nat.add_zero] at c0 c1 c2
            go_wp2_with (fail)
            generalize wr.alloc (.cells #[.int .i64 xi, .int .i64 xt, .int .i64 xs] 100) = wz at BX HBz HRz ⊢
            haveI := BelowBy.one wz
            have g0 := fun p : BelowBy wz => p.cell (BX.out.c 0 rfl)
            have g1 := fun p : BelowBy wz => p.cell (BX.out.c 1 rfl)
            have g2 := fun p : BelowBy wz => p.cell (BX.out.c 2 rfl)
            refine wp_region_below (by kernel_rfl) (by kernel_rfl) ?_
            repeat (go_big_quiet_step (first | (go_at_call 55; refine calls_same (C1.out _ _ _ _)) | (go_at_call 38; refine calls_same (C2.out _ _))))
            refine wpQuiet_nil ?_
            intro _ hw'
            obtain ⟨pq, rfl⟩ := hw'
            have HB1 := hidIt (HBz.out.trans (pq.h.mono HBz.out.size))
            generalize pq.world = w2 at HB1 ⊢
            clear g0 g1 g2
            go_wp2_with (fail)
            exact ⟨⟨1, by simp, by omega, HO', hidIt (fun j hj => by omega), HB1⟩, by simp [intOf]; omega⟩
          · obtain ⟨j, rfl⟩ : ∃ j, i = j + 1 := ⟨i - 1, by omega⟩
            have hpos : (0 : Int) < ((j : Int) + 1) := by omega
            have hj8 : (j : Int) ≤ 8 := by omega
            have hj0 : (0 : Int) ≤ (j : Int) := by omega
            obtain ⟨pk, epk⟩ : ∃ pk, (rat L j).1 = pk := ⟨_, rfl⟩
            have hkj : Hid (kat L j = pk) := hidIt epk
            have EPK := hidIt epk
            clear epk
            go_wp2_with (fail)
            generalize wr.alloc (.cells #[.int .i64 xi, .int .i64 xt, .int .i64 xs] 100) = wz at BX HBz HRz ⊢
            haveI := BelowBy.one wz
            have g0 := fun p : BelowBy wz => p.cell (BX.out.c 0 rfl)
            have g1 := fun p : BelowBy wz => p.cell (BX.out.c 1 rfl)
            have g2 := fun p : BelowBy wz => p.cell (BX.out.c 2 rfl)
            obtain ⟨b', off', ea2, q0, _⟩ := HRz.out.all (i := j) (by rw [HN.out]; omega)
            cases ea2
            rw [EPK.out] at q0
            have k0 := fun p : BelowBy wz => p.cell q0
            clear q0
            by_cases hlt : pk < xi
            · have hd : decide (xi ≤ pk) = false := decide_eq_false (by omega)
              have HK' : Hid (∀ q, q + 1 < j + 1 + 1 → kat L q < kat L (q + 1)) := hidIt (fun q hq => by
                rcases Nat.lt_succ_iff_lt_or_eq.1 (show q + 1 < j + 1 + 1 from hq) with h | h
                · exact HK.out q h
                · have : q = j := by omega
                  subst this
                  rw [hkj.out, hkey.out]
                  exact hlt)
              clear hlt
              refine wp_region_below (by kernel_rfl) (by kernel_rfl) ?_
              repeat (go_big_quiet_step (first | (go_at_call 55; refine calls_same (C1.out _ _ _ _)) | (go_at_call 38; refine calls_same (C2.out _ _))))
              refine wpQuiet_nil ?_
              intro _ hw'
              obtain ⟨pq, rfl⟩ := hw'
              have HB1 := hidIt (HBz.out.trans (pq.h.mono HBz.out.size))
              generalize pq.world = w2 at HB1 ⊢
              clear g0 g1 g2 k0
              go_wp2_with (fail)
              exact ⟨⟨j + 1 + 1, by simp, by omega, HO', HK', HB1⟩, by simp [intOf]; omega⟩
            · have er := N3.out j (by omega) (by rw [hkj.out, hkey.out]; omega)
              have hd : decide (xi ≤ pk) = true := decide_eq_true (by omega)
              subst er
              clear hlt
              refine wp_region_below (by kernel_rfl) (by kernel_rfl) ?_
              repeat (go_big_quiet_step (first | (go_at_call 55; refine calls_same (C1.out _ _ _ _)) | (go_at_call 38; refine calls_same (C2.out _ _))))
              refine wpQuiet_nil ?_
              intro _ hw'
              obtain ⟨pq, rfl⟩ := hw'
              have HB1 := hidIt (HBz.out.trans (pq.h.mono HBz.out.size))
              generalize pq.world = w2 at HB1 ⊢
              clear g0 g1 g2 k0
              go_wp2_with (fail)
              go_ret
              exact ⟨rfl, HB1.out⟩
      · have hin' : ¬ (i : Int) < (m : Int) := by omega
        have HI : Hid (i = m) := hidIt (by omega)
        have er := N4.out h80 (fun j hj => HO.out j (by have := HI.out; omega)) (fun j hj => HK.out j (by have := HI.out; omega))
        subst er
        go_wp2_with (fail)
        go_ret
        exact ⟨rfl, HB.out⟩
  · have h80' : (8 : Int) < (m : Int) := by omega
    have er := N1.out h80
    subst er
    go_enter Tryz.func20, Tryz.ntmps20
    go_wp2
    go_ret
    exact ⟨rfl, Below.refl _ _⟩
end Go.Proofs.YtllajhieocploaaGreatDoor.Mm
namespace Go.Proofs.YtllajhieocploaaGreatDoor.Mk
set_option linter.unusedVariables false
theorem ris_short : ∀ (L : List En) (lo : Int), Ris L → (∀ e ∈ L, lo ≤ e.key ∧ e.key ≤ 7) → L.length ≤ (8 - lo).toNat
  | [], lo, _, _ => by simp
  | a :: L, lo, h, k => by
    obtain ⟨h1, h2⟩ := ris_cons.1 h
    have ha := k a (List.mem_cons_self ..)
    have := ris_short L (a.key + 1) h2 (fun e he => ⟨by have := h1 e he; omega, (k e (List.mem_cons_of_mem _ he)).2⟩)
    simp only [List.length_cons]
    omega
theorem okE_key {e : En} (h : okE e = true) : 0 ≤ e.key ∧ e.key ≤ 7 := by
  unfold okE at h
  simp only [Bool.and_eq_true, decide_eq_true_eq] at h
  exact ⟨h.1.1.1.1.1, h.1.1.1.1.2⟩
/-- What Merged answers. -/
def mergeB (A B : List En) : List En := if okBk A = true ∧ okBk B = true then mergeE A B else []
theorem merge_no {A B : List En} (h : ¬ (okBk A = true ∧ okBk B = true)) : mergeB A B = [] := if_neg h
theorem merge_of {A B J : List En} (hA : okBk A = true) (hB : okBk B = true) (h : IsJoin A B J) : mergeB A B = J := by
  unfold mergeB
  rw [if_pos ⟨hA, hB⟩]
  exact (merge_join A B (ok_ris hA) (ok_ris hB)).unique h
theorem merge_is {A B : List En} (hA : okBk A = true) (hB : okBk B = true) : IsJoin A B (mergeB A B) := by
  unfold mergeB
  rw [if_pos ⟨hA, hB⟩]
  exact merge_join A B (ok_ris hA) (ok_ris hB)
/-- What is merged is right. -/
theorem merge_ok {A B J : List En} (hA : okBk A = true) (hB : okBk B = true) (h : IsJoin A B J) : okBk J = true := by
  have hall : ∀ e ∈ J, okE e = true := fun e he => by
    rcases h.mem he with q | q
    · exact ok_all hA q
    · exact ok_all hB q
  exact ok_mk (ris_short J 0 h.ris (fun e he => okE_key (hall e he))) hall h.ris
theorem mergeB_ok (A B : List En) : okBk (mergeB A B) = true := by
  by_cases h : okBk A = true ∧ okBk B = true
  · exact merge_ok h.1 h.2 (merge_is h.1 h.2)
  · rw [merge_no h]; rfl
end Go.Proofs.YtllajhieocploaaGreatDoor.Mk
namespace Go.Proofs.YtllajhieocploaaGreatDoor.Mm
open Go.ChangeShapes Go.WideShapes Go.ChangeAt Go.RowKit
open Go.Proofs.YtllajhieocploaaGreatDoor.Mk (okE newB okBk look Ris IsJoin mergeB)
set_option linter.unusedVariables false
theorem merged_rows (A B : List Rw) : ∃ J : List Rw, toB J = mergeB (toB A) (toB B) := by
  by_cases h : okBk (toB A) = true ∧ okBk (toB B) = true
  · have j := Mk.merge_is h.1 h.2
    have all : ∀ M : List Mk.En, (∀ e ∈ M, e ∈ mergeB (toB A) (toB B)) → ∃ J : List Rw, toB J = M := by
      intro M
      induction M with
      | nil => intro _; exact ⟨[], rfl⟩
      | cons e M ih =>
        intro hM
        obtain ⟨J, hJ⟩ := ih (fun x hx => hM x (List.mem_cons_of_mem _ hx))
        obtain ⟨x, hx⟩ : ∃ x : Rw, toE x = e := by
          rcases j.mem (hM e (List.mem_cons_self ..)) with q | q
          · obtain ⟨x, _, hx⟩ := List.mem_map.1 q; exact ⟨x, hx⟩
          · obtain ⟨x, _, hx⟩ := List.mem_map.1 q; exact ⟨x, hx⟩
        exact ⟨x :: J, by rw [← hJ, ← hx]; rfl⟩
    exact all _ (fun e he => he)
  · exact ⟨[], by rw [Mk.merge_no h]; rfl⟩
end Go.Proofs.YtllajhieocploaaGreatDoor.Mm
namespace Go.Proofs.YtllajhieocploaaGreatDoor.Mm
open Go.ChangeShapes Go.WideShapes Go.ChangeAt Go.RowKit
open Go.Proofs.YtllajhieocploaaGreatDoor.Rc (BelowBy BelowBy.one wp_region_below calls_below calls_same)
open Go.Proofs.YtllajhieocploaaGreatDoor.Mk (okE newB okBk look Ris IsJoin mergeB)
set_option linter.unusedVariables false
set_option maxHeartbeats 2000000 in
theorem impl_memberIdOk (n : Int) (w : World) : Calls Tryz.prog 121 #[.int .i64 n] w fun e w' => e = .returned (.bool (inB n 0 7)) ∧ w' = w := by
  unfold inB
  rw [show decide (n ≤ 7) = decide (n < 8) from decide_eq_decide.2 (by omega)]
  by_cases h : 0 ≤ n
  · have h' : decide ((0 : Int) ≤ n) = true := decide_eq_true h
    rw [h', Bool.true_and]
    go_enter Tryz.func121, Tryz.ntmps121
    go_wp2
    go_ret
    exact ⟨rfl, rfl⟩
  · have h' : decide ((0 : Int) ≤ n) = false := decide_eq_false h
    rw [h', Bool.false_and]
    go_enter Tryz.func121, Tryz.ntmps121
    go_wp2
    go_ret
    exact ⟨rfl, rfl⟩
set_option maxHeartbeats 2000000 in
theorem impl_timeOk (n : Int) (w : World) : Calls Tryz.prog 40 #[.int .i64 n] w fun e w' => e = .returned (.bool (inB n 0 1000000)) ∧ w' = w := by
  unfold inB
  by_cases h : 0 ≤ n
  · have h' : decide ((0 : Int) ≤ n) = true := decide_eq_true h
    rw [h', Bool.true_and]
    go_enter Tryz.func40, Tryz.ntmps40
    go_wp2
    go_ret
    exact ⟨rfl, rfl⟩
  · have h' : decide ((0 : Int) ≤ n) = false := decide_eq_false h
    rw [h', Bool.false_and]
    go_enter Tryz.func40, Tryz.ntmps40
    go_wp2
    go_ret
    exact ⟨rfl, rfl⟩
set_option maxRecDepth 100000 in
set_option maxHeartbeats 4000000 in
theorem impl_memberOk (x : Rw) (w : World) : Calls Tryz.prog 95 #[rv x] w fun e w' => e = .returned (.bool (okE (toE x))) ∧ Below w.heap.size w w' := by
  rw [okE_eq]
  obtain ⟨a, b, c⟩ := x
  simp only
  have C1 := hidIt (fun W => impl_memberIdOk a W)
  have C2 := hidIt (fun W => impl_timeOk b W)
  generalize inB a 0 7 = k1 at C1 ⊢
  generalize inB b 0 1000000 = k2 at C2 ⊢
  unfold inB
  have HB := hidIt ((Below.refl w.heap.size w).alloc (Nat.le_refl _) (.cells #[.int .i64 a, .int .i64 b, .int .i64 c] 100))
  cases k1 with
  | false =>
    rw [Bool.false_and]
    go_enter Tryz.func95, Tryz.ntmps95
    go_wp2_with (fail)
    refine (C1.out _).mono ?_
    rintro e w1 ⟨rfl, rfl⟩
    go_wp2_with (fail)
    go_ret
    exact ⟨rfl, HB.out⟩
  | true =>
    rw [Bool.true_and]
    cases k2 with
    | false =>
      rw [Bool.false_and]
      go_enter Tryz.func95, Tryz.ntmps95
      go_wp2_with (fail)
      refine (C1.out _).mono ?_
      rintro e w1 ⟨rfl, rfl⟩
      go_wp2_with (fail)
      refine (C2.out _).mono ?_
      rintro e w1 ⟨rfl, rfl⟩
      go_wp2_with (fail)
      go_ret
      exact ⟨rfl, HB.out⟩
    | true =>
      rw [Bool.true_and]
      by_cases h : 0 ≤ c
      · have h' : decide ((0 : Int) ≤ c) = true := decide_eq_true h
        rw [h', Bool.true_and]
        go_enter Tryz.func95, Tryz.ntmps95
        go_wp2_with (fail)
        refine (C1.out _).mono ?_
        rintro e w1 ⟨rfl, rfl⟩
        go_wp2_with (fail)
        refine (C2.out _).mono ?_
        rintro e w1 ⟨rfl, rfl⟩
        go_wp2_with (fail)
        go_ret
        exact ⟨rfl, HB.out⟩
      · have h' : decide ((0 : Int) ≤ c) = false := decide_eq_false h
        rw [h', Bool.false_and]
        go_enter Tryz.func95, Tryz.ntmps95
        go_wp2_with (fail)
        refine (C1.out _).mono ?_
        rintro e w1 ⟨rfl, rfl⟩
        go_wp2_with (fail)
        refine (C2.out _).mono ?_
        rintro e w1 ⟨rfl, rfl⟩
        go_wp2_with (fail)
        go_ret
        exact ⟨rfl, HB.out⟩
theorem book_all {L : List Rw} (h2 : ∀ i, i < L.length → okE (toE (rat L i)) = true) (h3 : ∀ i, i + 1 < L.length → kat L i < kat L (i + 1)) : okBk (toB L) = true := by
  have hr := ris_of h3
  refine book_yes ?_ h2 h3
  have := Mk.ris_short (toB L) 0 hr (fun e he => by
    obtain ⟨x, hx, rfl⟩ := List.mem_map.1 he
    obtain ⟨i, hi, rfl⟩ := List.mem_iff_getElem.1 hx
    have := h2 i hi
    rw [rat_at hi] at this
    exact Mk.okE_key this)
  rw [List.length_map] at this
  exact this
set_option maxRecDepth 100000 in
set_option maxHeartbeats 4000000 in
theorem impl_MembersOk (a : Option Addr) (cap : Nat) (L : List Rw) (w : World) (h : Rd w a L) (hl : L.length ≤ 9223372036854775807) :
    Calls Tryz.prog 64 #[.slice a L.length cap] w fun e w' => e = .returned (.bool (okBk (toB L))) ∧ Below w.heap.size w w' := by
  have N2 : Hid (∀ i, i < L.length → okE (toE (rat L i)) = false → okBk (toB L) = false) := hidIt (fun i hi h => book_no2 hi h)
  have N3 : Hid (∀ i, i + 1 < L.length → ¬ kat L i < kat L (i + 1) → okBk (toB L) = false) := hidIt (fun i hi h => book_no3 hi h)
  have N4 : Hid ((∀ i, i < L.length → okE (toE (rat L i)) = true) → (∀ i, i + 1 < L.length → kat L i < kat L (i + 1)) → okBk (toB L) = true) := hidIt book_all
  generalize okBk (toB L) = r at N2 N3 N4 ⊢
  have HR := hidIt h
  clear h
  generalize hn : L.length = m at *
  have HN := hidIt hn
  clear hn
  go_enter Tryz.func64, Tryz.ntmps64
  go_wp2_with (fail)
  go_loopw [7] (fun y wx => ∃ i : Nat, y = .int .i64 i ∧ i ≤ m ∧ Hid (∀ j, j < i → okE (toE (rat L j)) = true) ∧ Hid (∀ j, j + 1 < i → kat L j < kat L (j + 1)) ∧ Hid (Below w.heap.size w wx)) (fun y _ => (m - intOf y).toNat)
  case atStart => exact ⟨0, rfl, by omega, hidIt (fun j hj => by omega), hidIt (fun j hj => by omega), hidIt (Below.refl _ _)⟩
  case round =>
    obtain ⟨i, rfl, hi, HO, HK, HB⟩ := hrel
    by_cases hin : i < m
    · have hin' : (i : Int) < (m : Int) := by omega
      have HRx := hidIt (HR.out.kept HB.out)
      obtain ⟨b, off, ea, c0, c1, c2⟩ := HRx.out.all (i := i) (by rw [HN.out]; exact hin)
      subst ea
      have CE := hidIt (fun W => impl_memberOk (rat L i) W)
      obtain ⟨ok, hok⟩ : ∃ ok, okE (toE (rat L i)) = ok := ⟨_, rfl⟩
      rw [hok] at CE
      have HOK := hidIt hok
      clear hok
      have hkey : Hid (kat L i = (rat L i).1) := hidIt rfl
      generalize rat L i = x at c0 c1 c2 CE hkey
      obtain ⟨xi, xt, xs⟩ := x
      simp only [rv] at c0 c1 c2 CE hkey
      have BX := hidIt (Bo.Box.new wr #[.int .i64 xi, .int .i64 xt, .int .i64 xs] 100)
      have HBz := hidIt (HB.out.alloc HB.out.size (.cells #[.int .i64 xi, .int .i64 xt, .int .i64 xs] 100))
      have HRz := hidIt (HRx.out.alloc (.cells #[.int .i64 xi, .int .i64 xt, .int .i64 xs] 100))
      cases ok with
      | false =>
        have er := N2.out i hin HOK.out
        subst er
        go_wp2_with (fail)
        generalize wr.alloc (.cells #[.int .i64 xi, .int .i64 xt, .int .i64 xs] 100) = wz at BX HBz HRz ⊢
        haveI := BelowBy.one wz
        have g0 := fun p : BelowBy wz => p.cell (BX.out.c 0 rfl)
        have g1 := fun p : BelowBy wz => p.cell (BX.out.c 1 rfl)
        have g2 := fun p : BelowBy wz => p.cell (BX.out.c 2 rfl)
        refine wp_region_below (by kernel_rfl) (by kernel_rfl) ?_
        repeat (go_big_quiet_step (first | (go_at_call 95; refine calls_below (CE.out _))))
        refine wpQuiet_nil ?_
        intro _ hw'
        obtain ⟨pq, rfl⟩ := hw'
        have HB1 := hidIt (HBz.out.trans (pq.h.mono HBz.out.size))
        generalize pq.world = w2 at HB1 ⊢
        clear g0 g1 g2
        go_wp2_with (fail)
        go_ret
        exact ⟨rfl, HB1.out⟩
      | true =>
        have HO' : Hid (∀ j, j < i + 1 → okE (toE (rat L j)) = true) := hidIt (fun j hj => by
          rcases Nat.lt_succ_iff_lt_or_eq.1 hj with h | h
          · exact HO.out j h
          · subst h; exact HOK.out)
        rcases Nat.eq_zero_or_pos i with hz | hp
        · subst hz
          simp only [Nat.zero_mul, Nat.add_zero] at c0 c1 c2
          go_wp2_with (fail)
          generalize wr.alloc (.cells #[.int .i64 xi, .int .i64 xt, .int .i64 xs] 100) = wz at BX HBz HRz ⊢
          haveI := BelowBy.one wz
          have g0 := fun p : BelowBy wz => p.cell (BX.out.c 0 rfl)
          have g1 := fun p : BelowBy wz => p.cell (BX.out.c 1 rfl)
          have g2 := fun p : BelowBy wz => p.cell (BX.out.c 2 rfl)
          refine wp_region_below (by kernel_rfl) (by kernel_rfl) ?_
          repeat (go_big_quiet_step (first | (go_at_call 95; refine calls_below (CE.out _))))
          refine wpQuiet_nil ?_
          intro _ hw'
          obtain ⟨pq, rfl⟩ := hw'
          have HB1 := hidIt (HBz.out.trans (pq.h.mono HBz.out.size))
          generalize pq.world = w2 at HB1 ⊢
          clear g0 g1 g2
          go_wp2_with (fail)
          exact ⟨⟨1, by simp, by omega, HO', hidIt (fun j hj => by omega), HB1⟩, by simp [intOf]; omega⟩
        · obtain ⟨j, rfl⟩ : ∃ j, i = j + 1 := ⟨i - 1, by omega⟩
          have hpos : (0 : Int) < ((j : Int) + 1) := by omega
          have hj8 : (j : Int) ≤ 9223372036854775806 := by omega
          have hj0 : (0 : Int) ≤ (j : Int) := by omega
          obtain ⟨pk, epk⟩ : ∃ pk, (rat L j).1 = pk := ⟨_, rfl⟩
          have hkj : Hid (kat L j = pk) := hidIt epk
          have EPK := hidIt epk
          clear epk
          go_wp2_with (fail)
          generalize wr.alloc (.cells #[.int .i64 xi, .int .i64 xt, .int .i64 xs] 100) = wz at BX HBz HRz ⊢
          haveI := BelowBy.one wz
          have g0 := fun p : BelowBy wz => p.cell (BX.out.c 0 rfl)
          have g1 := fun p : BelowBy wz => p.cell (BX.out.c 1 rfl)
          have g2 := fun p : BelowBy wz => p.cell (BX.out.c 2 rfl)
          obtain ⟨b', off', ea2, q0, _⟩ := HRz.out.all (i := j) (by rw [HN.out]; omega)
          cases ea2
          rw [EPK.out] at q0
          have k0 := fun p : BelowBy wz => p.cell q0
          clear q0
          by_cases hlt : pk < xi
          · have hd : decide (xi ≤ pk) = false := decide_eq_false (by omega)
            have HK' : Hid (∀ q, q + 1 < j + 1 + 1 → kat L q < kat L (q + 1)) := hidIt (fun q hq => by
              rcases Nat.lt_succ_iff_lt_or_eq.1 (show q + 1 < j + 1 + 1 from hq) with h | h
              · exact HK.out q h
              · have : q = j := by omega
                subst this
                rw [hkj.out, hkey.out]
                exact hlt)
            clear hlt
            refine wp_region_below (by kernel_rfl) (by kernel_rfl) ?_
            repeat (go_big_quiet_step (first | (go_at_call 95; refine calls_below (CE.out _))))
            refine wpQuiet_nil ?_
            intro _ hw'
            obtain ⟨pq, rfl⟩ := hw'
            have HB1 := hidIt (HBz.out.trans (pq.h.mono HBz.out.size))
            generalize pq.world = w2 at HB1 ⊢
            clear g0 g1 g2 k0
            go_wp2_with (fail)
            exact ⟨⟨j + 1 + 1, by simp, by omega, HO', HK', HB1⟩, by simp [intOf]; omega⟩
          · have er := N3.out j (by omega) (by rw [hkj.out, hkey.out]; omega)
            have hd : decide (xi ≤ pk) = true := decide_eq_true (by omega)
            subst er
            clear hlt
            refine wp_region_below (by kernel_rfl) (by kernel_rfl) ?_
            repeat (go_big_quiet_step (first | (go_at_call 95; refine calls_below (CE.out _))))
            refine wpQuiet_nil ?_
            intro _ hw'
            obtain ⟨pq, rfl⟩ := hw'
            have HB1 := hidIt (HBz.out.trans (pq.h.mono HBz.out.size))
            generalize pq.world = w2 at HB1 ⊢
            clear g0 g1 g2 k0
            go_wp2_with (fail)
            go_ret
            exact ⟨rfl, HB1.out⟩
    · have hin' : ¬ (i : Int) < (m : Int) := by omega
      have HI : Hid (i = m) := hidIt (by omega)
      have er := N4.out (fun j hj => HO.out j (by have := HI.out; omega)) (fun j hj => HK.out j (by have := HI.out; omega))
      subst er
      go_wp2_with (fail)
      go_ret
      exact ⟨rfl, HB.out⟩
end Go.Proofs.YtllajhieocploaaGreatDoor.Mm
namespace Go.Proofs.YtllajhieocploaaGreatDoor.Rp
open Go.ChangeShapes Go.WideShapes Go.ChangeAt Go.RowKit
set_option linter.unusedVariables false
/-- Nothing has turned but blocks from lo up to hi. -/
structure OnlyIn (lo hi : Nat) (w w' : World) : Prop where
  os : w'.os = w.os
  tape : w'.tape = w.tape
  output : w'.output = w.output
  size : w.heap.size ≤ w'.heap.size
  block : ∀ k, k < w.heap.size → ¬ (lo ≤ k ∧ k < hi) → w'.heap[k]? = w.heap[k]?
theorem OnlyIn.refl (lo hi : Nat) (w : World) : OnlyIn lo hi w w := ⟨rfl, rfl, rfl, Nat.le_refl _, fun _ _ _ => rfl⟩
theorem OnlyIn.trans {lo hi : Nat} {a b d : World} (h : OnlyIn lo hi a b) (k : OnlyIn lo hi b d) : OnlyIn lo hi a d :=
  ⟨k.os.trans h.os, k.tape.trans h.tape, k.output.trans h.output, Nat.le_trans h.size k.size, fun i hi hc => (k.block i (Nat.lt_of_lt_of_le hi h.size) hc).trans (h.block i hi hc)⟩
theorem OnlyIn.of_below {lo hi : Nat} {w w' : World} (h : Below w.heap.size w w') : OnlyIn lo hi w w' := ⟨h.os, h.tape, h.output, h.size, fun k hk _ => h.block k hk⟩
theorem OnlyIn.of_only {lo hi c : Nat} {w w' : World} (h : Only c w w') (hc : w.heap.size ≤ c ∨ (lo ≤ c ∧ c < hi)) : OnlyIn lo hi w w' :=
  ⟨h.os, h.tape, h.output, h.size, fun k hk hn => h.block k hk (fun e => by subst e; rcases hc with q | q; omega; exact hn q)⟩
theorem OnlyIn.below {lo hi B : Nat} {w w' : World} (h : OnlyIn lo hi w w') (hB : B ≤ lo) (hs : B ≤ w.heap.size) : Below B w w' := ⟨h.os, h.tape, h.output, h.size, fun k hk => h.block k (by omega) (by omega)⟩
/-- A row of which no block has turned. -/
theorem row_in {lo hi : Nat} {w w' : World} {b e s n : Nat} {v : Value} {xs : List Value} (h : w.ownsRow b e s v n xs) (Y : OnlyIn lo hi w w') (hd : ∀ g, v.ownBlock = some g → ¬ (lo ≤ g ∧ g < hi)) : w'.ownsRow b e s v n xs := by
  rcases h.2 with ⟨e1, e2⟩ | ⟨g, cap, cur, e1, hb, hg, r⟩
  · exact ⟨h.1, .inl ⟨e1, e2⟩⟩
  · refine ⟨h.1, .inr ⟨g, cap, cur, e1, hb, ?_, r⟩⟩
    rw [Y.block g (Array.getElem?_eq_some_iff.1 hg).1 (hd g (by rw [e1]; rfl))]
    exact hg
/-- Rows of unlike elements lie in unlike blocks. -/
theorem own_apart {w : World} {base base' e e' s s' n n' : Nat} {v v' : Value} {xs xs' : List Value} (h : w.ownsRow base e s v n xs) (h' : w.ownsRow base' e' s' v' n' xs') (hne : e ≠ e') : ∀ g, v.ownBlock = some g → v'.ownBlock ≠ some g := by
  intro g hg hg'
  rcases h.2 with ⟨e1, _⟩ | ⟨x, cap, cur, e1, _, hx, _⟩
  · rw [e1] at hg; cases hg
  · rcases h'.2 with ⟨e2, _⟩ | ⟨y, cap', cur', e2, _, hy, _⟩
    · rw [e2] at hg'; cases hg'
    · rw [e1] at hg
      rw [e2] at hg'
      cases hg
      cases hg'
      rw [hx] at hy
      cases hy
      exact hne rfl
/-- Nothing but one row's block has turned: another row stays. -/
theorem row_other {w w' : World} {b b' e e' s s' n n' : Nat} {u v : Value} {xs ys : List Value} (hu : w.ownsRow b e s u n xs) (hv : w.ownsRow b' e' s' v n' ys) (Y : Only (v.ownBlock.getD w.heap.size) w w') (hd : ∀ g, u.ownBlock = some g → v.ownBlock ≠ some g) : w'.ownsRow b e s u n xs := by
  refine World.ownsRow.kept hu (row := some (v.ownBlock.getD w.heap.size)) ⟨Y.os, Y.tape, Y.output, Y.size, fun i hi hne => Y.block i hi (fun e => hne (by rw [e]))⟩ ?_
  cases hub : u.ownBlock with
  | none => exact .inl rfl
  | some g =>
    refine .inr (fun e => ?_)
    have h2 := (World.ownsRow.lt hu g hub).2
    have e' := Option.some.inj e
    cases hvb : v.ownBlock with
    | none => rw [hvb] at e'; simp at e'; omega
    | some x => rw [hvb] at e'; simp at e'; subst e'; exact hd g hub hvb
end Go.Proofs.YtllajhieocploaaGreatDoor.Rp
namespace Go.Proofs.YtllajhieocploaaGreatDoor.Pt
open Go.ChangeShapes Go.WideShapes Go.ChangeAt Go.RowKit
set_option linter.unusedVariables false
theorem hidIt {p : Prop} (h : p) : Hid p := h
/-- A Point: X and Y. -/
abbrev Ln := Int × Int
def lat (L : List Ln) (i : Nat) : Ln := L.getD i (0, 0)
theorem lat_take {L : List Ln} {n i : Nat} (h : i < n) : lat (L.take n) i = lat L i := by
  unfold lat
  rw [List.getD_eq_getElem?_getD, List.getD_eq_getElem?_getD, List.getElem?_take, if_pos h]
theorem lat_append_left {L M : List Ln} {i : Nat} (h : i < L.length) : lat (L ++ M) i = lat L i := by
  unfold lat
  rw [List.getD_eq_getElem?_getD, List.getD_eq_getElem?_getD, List.getElem?_append_left h]
theorem lat_append_at {L : List Ln} {x : Ln} : lat (L ++ [x]) L.length = x := by
  unfold lat
  rw [List.getD_eq_getElem?_getD, List.getElem?_append_right (Nat.le_refl _)]
  simp
theorem lat_set {L : List Ln} {i j : Nat} {x : Ln} (h : i < L.length) : lat (L.set i x) j = if i = j then x else lat L j := by
  unfold lat
  rw [List.getD_eq_getElem?_getD, List.getD_eq_getElem?_getD, List.getElem?_set]
  by_cases e : i = j
  · subst e; simp [h]
  · simp [e]
theorem lat_getElem? {L : List Ln} {i : Nat} (h : i < L.length) : L[i]? = some (lat L i) := by
  unfold lat
  rw [List.getD_eq_getElem?_getD, List.getElem?_eq_getElem h]; rfl
theorem ext_lat {L M : List Ln} (h : L.length = M.length) (e : ∀ i, i < L.length → lat L i = lat M i) : L = M := by
  apply List.ext_getElem? ; intro i
  by_cases hi : i < L.length
  · rw [lat_getElem? hi, lat_getElem? (by omega), e i hi]
  · rw [List.getElem?_eq_none (by omega), List.getElem?_eq_none (by omega)]
/-- The cells of a list. -/
def lcells : List Ln → List Value
  | [] => []
  | x :: r => .int .i64 x.1 :: .int .i64 x.2 :: lcells r
theorem lcells_nil : lcells [] = [] := rfl
theorem lcells_cons (x : Ln) (r : List Ln) : lcells (x :: r) = .int .i64 x.1 :: .int .i64 x.2 :: lcells r := rfl
theorem lcells_length (L : List Ln) : (lcells L).length = L.length * 2 := by
  induction L with
  | nil => rfl
  | cons x r ih => rw [lcells_cons, List.length_cons, List.length_cons, ih, List.length_cons]; omega
theorem lcells_append (L M : List Ln) : lcells (L ++ M) = lcells L ++ lcells M := by
  induction L with
  | nil => rfl
  | cons x r ih => rw [List.cons_append, lcells_cons, lcells_cons, ih]; rfl
theorem lcells_text (L : List Ln) : ∀ i, i < L.length → (lcells L)[i * 2]? = some (.int .i64 (lat L i).1) := by
  induction L with
  | nil => intro i hi; simp at hi
  | cons x r ih =>
    intro i hi
    cases i with
    | zero => rfl
    | succ k =>
      rw [lcells_cons, show (k + 1) * 2 = k * 2 + 1 + 1 from by omega, List.getElem?_cons_succ, List.getElem?_cons_succ, ih k (by simp at hi; omega)]
      rfl
theorem lcells_sum (L : List Ln) : ∀ i, i < L.length → (lcells L)[i * 2 + 1]? = some (.int .i64 (lat L i).2) := by
  induction L with
  | nil => intro i hi; simp at hi
  | cons x r ih =>
    intro i hi
    cases i with
    | zero => rfl
    | succ k =>
      rw [lcells_cons, show (k + 1) * 2 + 1 = k * 2 + 1 + 1 + 1 from by omega, List.getElem?_cons_succ, List.getElem?_cons_succ, ih k (by simp at hi; omega)]
      rfl
theorem lcells_set_text (L : List Ln) (s : Int) : ∀ i, i < L.length → (lcells L).set (i * 2) (.int .i64 s) = lcells (L.set i (s, (lat L i).2)) := by
  induction L with
  | nil => intro i hi; simp at hi
  | cons x r ih =>
    intro i hi
    cases i with
    | zero => rfl
    | succ k =>
      rw [lcells_cons, show (k + 1) * 2 = k * 2 + 1 + 1 from by omega, List.set_cons_succ, List.set_cons_succ, ih k (by simp at hi; omega)]
      rfl
theorem lcells_set_sum (L : List Ln) (n : Int) : ∀ i, i < L.length → (lcells L).set (i * 2 + 1) (.int .i64 n) = lcells (L.set i ((lat L i).1, n)) := by
  induction L with
  | nil => intro i hi; simp at hi
  | cons x r ih =>
    intro i hi
    cases i with
    | zero => rfl
    | succ k =>
      rw [lcells_cons, show (k + 1) * 2 + 1 = k * 2 + 1 + 1 + 1 from by omega, List.set_cons_succ, List.set_cons_succ, ih k (by simp at hi; omega)]
      rfl
theorem lcells_one (L : List Ln) : ∀ u ∈ lcells L, u.oneCell' = true := by
  induction L with
  | nil => intro u hu; cases hu
  | cons x r ih =>
    intro u hu
    rw [lcells_cons] at hu
    rcases List.mem_cons.1 hu with rfl | hu
    · rfl
    rcases List.mem_cons.1 hu with rfl | hu
    · rfl
    exact ih u hu
theorem lat_zero (n i : Nat) : lat (List.replicate n (0, 0)) i = (0, 0) := by
  unfold lat
  rw [List.getD_eq_getElem?_getD, List.getElem?_replicate]
  split <;> rfl
theorem lcells_zero (n : Nat) : lcells (List.replicate n (0, 0)) = (madeCells #[.int .i64 0, .int .i64 0] (n * 2)).toList := by
  apply List.ext_getElem?
  intro j
  rcases Nat.lt_or_ge j (n * 2) with hj | hj
  · have h2 : j / 2 < (List.replicate n ((0, 0) : Ln)).length := by simp; omega
    rcases Nat.mod_two_eq_zero_or_one j with e | e
    · have := lcells_text _ _ h2
      rw [show j / 2 * 2 = j from by omega] at this
      rw [this, lat_zero]
      simp [madeCells, hj, e]
    · have := lcells_sum _ _ h2
      rw [show j / 2 * 2 + 1 = j from by omega] at this
      rw [this, lat_zero]
      simp [madeCells, hj, e]
  · rw [List.getElem?_eq_none (by rw [lcells_length]; simp; omega), List.getElem?_eq_none (by simp [madeCells]; omega)]
/-- A slice at address a reads as the list L. -/
structure Rd (w : World) (a : Option Addr) (L : List Ln) : Prop where
  cell : ∀ i, i < L.length → ∃ b off, a = some ⟨b, off, none⟩ ∧ w.cell? ⟨b, off + i * 2, none⟩ = some (.int .i64 (lat L i).1) ∧ w.cell? ⟨b, off + i * 2 + 1, none⟩ = some (.int .i64 (lat L i).2)
theorem cell_block {w : World} {b o : Nat} {v : Value} (h : w.cell? ⟨b, o, none⟩ = some v) : b < w.heap.size := World.block_lt_of_cell? w ⟨b, o, none⟩ h
theorem Rd.kept {w w' : World} {a : Option Addr} {L : List Ln} (h : Rd w a L) (k : Below w.heap.size w w') : Rd w' a L :=
  ⟨fun i hi => by
    obtain ⟨b, off, e, c0, c1⟩ := h.cell i hi
    exact ⟨b, off, e, by rw [k.cell (by simpa using cell_block c0)]; exact c0, by rw [k.cell (by simpa using cell_block c1)]; exact c1⟩⟩
theorem Rd.alloc {w : World} {a : Option Addr} {L : List Ln} (h : Rd w a L) (o : Obj) : Rd (w.alloc o) a L := h.kept ((Below.refl _ _).alloc (Nat.le_refl _) o)
theorem Rd.drew {w : World} {a : Option Addr} {L : List Ln} (h : Rd w a L) : Rd w.drew a L := ⟨h.cell⟩
theorem Rd.take {w : World} {a : Option Addr} {L : List Ln} (h : Rd w a L) (n : Nat) : Rd w a (L.take n) :=
  ⟨fun i hi => by
    rw [List.length_take] at hi
    rw [lat_take (by omega)]
    exact h.cell i (by omega)⟩
theorem Rd.nil (w : World) (a : Option Addr) : Rd w a [] := ⟨fun i hi => by simp at hi⟩
/-- The slice v owns the Points L in a row of the call's own. -/
def Own (w : World) (base : Nat) (v : Value) (L : List Ln) : Prop := w.ownsRow base 48 2 v L.length (lcells L)
theorem Own.form {w : World} {base : Nat} {v : Value} {L : List Ln} (h : Own w base v L) : ∃ a cap, v = .slice a L.length cap ∧ L.length ≤ cap ∧ cap ≤ maxLen ∧ Rd w a L ∧ (a = none → cap = 0) ∧ (∀ x, a = some x → ∃ g, x = ⟨g, 0, none⟩ ∧ base ≤ g ∧ g < w.heap.size) := by
  have h' := h
  rcases h.2 with ⟨rfl, h0⟩ | ⟨g, cap, cur, rfl, hb, hg, hn, hm, rest⟩
  · exact ⟨none, 0, by rw [h0], by omega, by decide, ⟨fun i hi => by omega⟩, fun _ => rfl, fun x hx => by cases hx⟩
  · refine ⟨some ⟨g, 0, none⟩, cap, rfl, hn, hm, ⟨fun i hi => ⟨g, 0, rfl, ?_, ?_⟩⟩, (fun e => by cases e), fun x hx => ⟨g, by cases hx; rfl, hb, (Array.getElem?_eq_some_iff.1 hg).1⟩⟩
    · rw [Nat.zero_add, World.ownsRow.cellAt h' _ (by omega), lcells_text _ _ hi]
    · rw [Nat.zero_add, World.ownsRow.cellAt h' _ (by omega), lcells_sum _ _ hi]
theorem Own.kept {w w' : World} {base : Nat} {v : Value} {L : List Ln} (h : Own w base v L) (k : Below w.heap.size w w') : Own w' base v L :=
  World.ownsRow.kept (row := none) h ⟨k.os, k.tape, k.output, k.size, fun i hi _ => k.block i hi⟩ (by cases v.ownBlock <;> simp)
theorem Own.alloc {w : World} {base : Nat} {v : Value} {L : List Ln} (h : Own w base v L) (o : Obj) : Own (w.alloc o) base v L := World.ownsRow.alloc h o
theorem Own.only {w w' : World} {base c : Nat} {v : Value} {L : List Ln} (h : Own w base v L) (k : Only c w w') (hc : c < base ∨ ∀ g, v.ownBlock = some g → g ≠ c) : Own w' base v L := by
  refine World.ownsRow.kept h (row := some c) ⟨k.os, k.tape, k.output, k.size, fun i hi hne => k.block i hi (fun e => hne (by rw [e]))⟩ ?_
  cases hv : v.ownBlock with
  | none => exact .inl rfl
  | some g =>
    refine .inr (fun e => ?_)
    cases e
    rcases hc with hc | hc
    · have := (World.ownsRow.lt h _ hv).1; omega
    · exact hc _ hv rfl
theorem Own.mono {w : World} {base b' : Nat} {v : Value} {L : List Ln} (h : Own w base v L) (hb : b' ≤ base) : Own w b' v L := by
  refine ⟨h.1, ?_⟩
  rcases h.2 with h0 | ⟨g, cap, cur, e, hb', r⟩
  · exact .inl h0
  · exact .inr ⟨g, cap, cur, e, by omega, r⟩
theorem Own.new (w : World) : Own (w.alloc (.cells #[] 48)) w.heap.size (.slice (some ⟨w.heap.size, 0, none⟩) 0 0) [] :=
  World.ownsRow_made w #[] 0 (Nat.le_refl _) (by decide) rfl
/-- A store into the X or the Y of Point i. -/
theorem Own.text {w : World} {base g n cap i : Nat} {L : List Ln} (h : Own w base (.slice (some ⟨g, 0, none⟩) n cap) L) (hi : i < L.length) (s : Int) :
    Own (w.setCell ⟨g, i * 2, none⟩ (.int .i64 s)) base (.slice (some ⟨g, 0, none⟩) n cap) (L.set i (s, (lat L i).2)) := by
  obtain ⟨a, c', e, _⟩ := h.form
  cases e
  have := (World.ownsRow.stored h (i * 2) (.int .i64 s)).1
  rw [lcells_set_text _ _ _ hi] at this
  unfold Own
  rw [List.length_set]
  exact this
theorem Own.sum {w : World} {base g n cap i : Nat} {L : List Ln} (h : Own w base (.slice (some ⟨g, 0, none⟩) n cap) L) (hi : i < L.length) (x : Int) :
    Own (w.setCell ⟨g, i * 2 + 1, none⟩ (.int .i64 x)) base (.slice (some ⟨g, 0, none⟩) n cap) (L.set i ((lat L i).1, x)) := by
  obtain ⟨a, c', e, _⟩ := h.form
  cases e
  have := (World.ownsRow.stored h (i * 2 + 1) (.int .i64 x)).1
  rw [lcells_set_sum _ _ _ hi] at this
  unfold Own
  rw [List.length_set]
  exact this
theorem Own.free {w : World} {base g n cap : Nat} {L : List Ln} (h : Own w base (.slice (some ⟨g, 0, none⟩) n cap) L) (j : Nat) : w.frozen? ⟨g, j, none⟩ = false := by
  obtain ⟨a, c', e, _⟩ := h.form
  cases e
  exact World.ownsRow.frozenAt h j
theorem Own.at {w : World} {base g n cap i : Nat} {L : List Ln} (h : Own w base (.slice (some ⟨g, 0, none⟩) n cap) L) (hi : i < L.length) :
    w.cell? ⟨g, i * 2, none⟩ = some (.int .i64 (lat L i).1) ∧ w.cell? ⟨g, i * 2 + 1, none⟩ = some (.int .i64 (lat L i).2) ∧ w.frozen? ⟨g, i * 2, none⟩ = false ∧ w.frozen? ⟨g, i * 2 + 1, none⟩ = false := by
  obtain ⟨a', c', e1, _, _, r, _⟩ := h.form
  cases e1
  obtain ⟨b', o', e2, k0, k1⟩ := r.cell i hi
  cases e2
  exact ⟨by simpa using k0, by simpa using k1, h.free _, h.free _⟩
theorem Own.line {w : World} {base g n cap i : Nat} {L : List Ln} (h : Own w base (.slice (some ⟨g, 0, none⟩) n cap) L) (hi : i < L.length) (s : Int) (x : Int) :
    Own ((w.setCell ⟨g, i * 2, none⟩ (.int .i64 s)).setCell ⟨g, i * 2 + 1, none⟩ (.int .i64 x)) base (.slice (some ⟨g, 0, none⟩) n cap) (L.set i (s, x)) := by
  have := (h.text hi s).sum (i := i) (by rw [List.length_set]; exact hi) x
  rw [lat_set hi, if_pos rfl, List.set_set] at this
  exact this
theorem grown_below {w w' : World} {base B : Nat} {v : Value} {L : List Ln} (h : Own w base v L) (g : w.grownBy w' v.ownBlock) (hB : B ≤ base) (hs : B ≤ w.heap.size) : Below B w w' :=
  ⟨g.os, g.tape, g.output, g.size, fun k hk => g.block k (by omega) (fun e => by have := (World.ownsRow.lt h k e.symm).1; omega)⟩
theorem Own.more {w : World} {base : Nat} {v : Value} {L : List Ln} {x : Ln} (h : w.ownsRow base 48 2 v (L.length + 1) (lcells L ++ [.int .i64 x.1, .int .i64 x.2])) : Own w base v (L ++ [x]) := by
  unfold Own
  rw [List.length_append, lcells_append]
  exact h
/-- The slice at a, of capacity cap, that came in reads as L. -/
structure In (w : World) (a : Option Addr) (cap : Nat) (L : List Ln) : Prop where
  rd : Rd w a L
  le : L.length ≤ cap
  cap : cap ≤ 9223372036854775807
end Go.Proofs.YtllajhieocploaaGreatDoor.Pt
