/-
  The program's MembersOk, Stronger, the copy.
-/
import Derived.Test.YtllajhieocploaaMbV
namespace Go.Proofs.Ytllajhieocploaa.Mm
open Go.ChangeShapes Go.WideShapes Go.ChangeAt Go.RowKit
open Go.Proofs.Ytllajhieocploaa.Rc (BelowBy BelowBy.one wp_region_below calls_below calls_same)
open Go.Proofs.Ytllajhieocploaa.Mk (okE newB okBk look Ris IsJoin mergeB)
set_option linter.unusedVariables false
set_option maxHeartbeats 2000000 in
theorem impl_memberIdOk (n : Int) (w : World) : Calls Try.prog 113 #[.int .i64 n] w fun e w' => e = .returned (.bool (inB n 0 7)) ∧ w' = w := by
  unfold inB
  rw [show decide (n ≤ 7) = decide (n < 8) from decide_eq_decide.2 (by omega)]
  by_cases h : 0 ≤ n
  · have h' : decide ((0 : Int) ≤ n) = true := decide_eq_true h
    rw [h', Bool.true_and]
    go_enter Try.func113, Try.ntmps113
    go_wp2
    go_ret
    exact ⟨rfl, rfl⟩
  · have h' : decide ((0 : Int) ≤ n) = false := decide_eq_false h
    rw [h', Bool.false_and]
    go_enter Try.func113, Try.ntmps113
    go_wp2
    go_ret
    exact ⟨rfl, rfl⟩
set_option maxHeartbeats 2000000 in
theorem impl_timeOk (n : Int) (w : World) : Calls Try.prog 106 #[.int .i64 n] w fun e w' => e = .returned (.bool (inB n 0 1000000)) ∧ w' = w := by
  unfold inB
  by_cases h : 0 ≤ n
  · have h' : decide ((0 : Int) ≤ n) = true := decide_eq_true h
    rw [h', Bool.true_and]
    go_enter Try.func106, Try.ntmps106
    go_wp2
    go_ret
    exact ⟨rfl, rfl⟩
  · have h' : decide ((0 : Int) ≤ n) = false := decide_eq_false h
    rw [h', Bool.false_and]
    go_enter Try.func106, Try.ntmps106
    go_wp2
    go_ret
    exact ⟨rfl, rfl⟩
set_option maxRecDepth 100000 in
set_option maxHeartbeats 4000000 in
theorem impl_memberOk (x : Rw) (w : World) : Calls Try.prog 95 #[rv x] w fun e w' => e = .returned (.bool (okE (toE x))) ∧ Below w.heap.size w w' := by
  rw [okE_eq]
  obtain ⟨a, b, c⟩ := x
  simp only
  have C1 := hidIt (fun W => impl_memberIdOk a W)
  have C2 := hidIt (fun W => impl_timeOk b W)
  generalize inB a 0 7 = k1 at C1 ⊢
  generalize inB b 0 1000000 = k2 at C2 ⊢
  unfold inB
  have HB := hidIt ((Below.refl w.heap.size w).alloc (Nat.le_refl _) (.cells #[.int .i64 a, .int .i64 b, .int .i64 c] 89))
  cases k1 with
  | false =>
    rw [Bool.false_and]
    go_enter Try.func95, Try.ntmps95
    go_wp2_with (fail)
    refine (C1.out _).mono ?_
    rintro e w1 ⟨rfl, rfl⟩
    go_wp2_with (fail)
    go_ret
    exact ⟨rfl, HB.out⟩
  | true =>
    rw [Bool.true_and]
    cases k2 with
    | false =>
      rw [Bool.false_and]
      go_enter Try.func95, Try.ntmps95
      go_wp2_with (fail)
      refine (C1.out _).mono ?_
      rintro e w1 ⟨rfl, rfl⟩
      go_wp2_with (fail)
      refine (C2.out _).mono ?_
      rintro e w1 ⟨rfl, rfl⟩
      go_wp2_with (fail)
      go_ret
      exact ⟨rfl, HB.out⟩
    | true =>
      rw [Bool.true_and]
      by_cases h : 0 ≤ c
      · have h' : decide ((0 : Int) ≤ c) = true := decide_eq_true h
        rw [h', Bool.true_and]
        go_enter Try.func95, Try.ntmps95
        go_wp2_with (fail)
        refine (C1.out _).mono ?_
        rintro e w1 ⟨rfl, rfl⟩
        go_wp2_with (fail)
        refine (C2.out _).mono ?_
        rintro e w1 ⟨rfl, rfl⟩
        go_wp2_with (fail)
        go_ret
        exact ⟨rfl, HB.out⟩
      · have h' : decide ((0 : Int) ≤ c) = false := decide_eq_false h
        rw [h', Bool.false_and]
        go_enter Try.func95, Try.ntmps95
        go_wp2_with (fail)
        refine (C1.out _).mono ?_
        rintro e w1 ⟨rfl, rfl⟩
        go_wp2_with (fail)
        refine (C2.out _).mono ?_
        rintro e w1 ⟨rfl, rfl⟩
        go_wp2_with (fail)
        go_ret
        exact ⟨rfl, HB.out⟩
theorem book_all {L : List Rw} (h2 : ∀ i, i < L.length → okE (toE (rat L i)) = true) (h3 : ∀ i, i + 1 < L.length → kat L i < kat L (i + 1)) : okBk (toB L) = true := by
  have hr := ris_of h3
  refine book_yes ?_ h2 h3
  have := Mk.ris_short (toB L) 0 hr (fun e he => by
    obtain ⟨x, hx, rfl⟩ := List.mem_map.1 he
    obtain ⟨i, hi, rfl⟩ := List.mem_iff_getElem.1 hx
    have := h2 i hi
    rw [rat_at hi] at this
    exact Mk.okE_key this)
  rw [List.length_map] at this
  exact this
set_option maxRecDepth 100000 in
set_option maxHeartbeats 4000000 in
theorem impl_MembersOk (a : Option Addr) (cap : Nat) (L : List Rw) (w : World) (h : Rd w a L) (hl : L.length ≤ 9223372036854775807) :
    Calls Try.prog 77 #[.slice a L.length cap] w fun e w' => e = .returned (.bool (okBk (toB L))) ∧ Below w.heap.size w w' := by
  have N2 : Hid (∀ i, i < L.length → okE (toE (rat L i)) = false → okBk (toB L) = false) := hidIt (fun i hi h => book_no2 hi h)
  have N3 : Hid (∀ i, i + 1 < L.length → ¬ kat L i < kat L (i + 1) → okBk (toB L) = false) := hidIt (fun i hi h => book_no3 hi h)
  have N4 : Hid ((∀ i, i < L.length → okE (toE (rat L i)) = true) → (∀ i, i + 1 < L.length → kat L i < kat L (i + 1)) → okBk (toB L) = true) := hidIt book_all
  generalize okBk (toB L) = r at N2 N3 N4 ⊢
  have HR := hidIt h
  clear h
  generalize hn : L.length = m at *
  have HN := hidIt hn
  clear hn
  go_enter Try.func77, Try.ntmps77
  go_wp2_with (fail)
  go_loopw [7] (fun y wx => ∃ i : Nat, y = .int .i64 i ∧ i ≤ m ∧ Hid (∀ j, j < i → okE (toE (rat L j)) = true) ∧ Hid (∀ j, j + 1 < i → kat L j < kat L (j + 1)) ∧ Hid (Below w.heap.size w wx)) (fun y _ => (m - intOf y).toNat)
  case atStart => exact ⟨0, rfl, by omega, hidIt (fun j hj => by omega), hidIt (fun j hj => by omega), hidIt (Below.refl _ _)⟩
  case round =>
    obtain ⟨i, rfl, hi, HO, HK, HB⟩ := hrel
    by_cases hin : i < m
    · have hin' : (i : Int) < (m : Int) := by omega
      have HRx := hidIt (HR.out.kept HB.out)
      obtain ⟨b, off, ea, c0, c1, c2⟩ := HRx.out.all (i := i) (by rw [HN.out]; exact hin)
      subst ea
      have CE := hidIt (fun W => impl_memberOk (rat L i) W)
      obtain ⟨ok, hok⟩ : ∃ ok, okE (toE (rat L i)) = ok := ⟨_, rfl⟩
      rw [hok] at CE
      have HOK := hidIt hok
      clear hok
      have hkey : Hid (kat L i = (rat L i).1) := hidIt rfl
      generalize rat L i = x at c0 c1 c2 CE hkey
      obtain ⟨xi, xt, xs⟩ := x
      simp only [rv] at c0 c1 c2 CE hkey
      have BX := hidIt (Bo.Box.new wr #[.int .i64 xi, .int .i64 xt, .int .i64 xs] 89)
      have HBz := hidIt (HB.out.alloc HB.out.size (.cells #[.int .i64 xi, .int .i64 xt, .int .i64 xs] 89))
      have HRz := hidIt (HRx.out.alloc (.cells #[.int .i64 xi, .int .i64 xt, .int .i64 xs] 89))
      cases ok with
      | false =>
        have er := N2.out i hin HOK.out
        subst er
        go_wp2_with (fail)
        generalize wr.alloc (.cells #[.int .i64 xi, .int .i64 xt, .int .i64 xs] 89) = wz at BX HBz HRz ⊢
        haveI := BelowBy.one wz
        have g0 := fun p : BelowBy wz => p.cell (BX.out.c 0 rfl)
        have g1 := fun p : BelowBy wz => p.cell (BX.out.c 1 rfl)
        have g2 := fun p : BelowBy wz => p.cell (BX.out.c 2 rfl)
        refine wp_region_below (by kernel_rfl) (by kernel_rfl) ?_
        repeat (go_big_quiet_step (first | (go_at_call 95; refine calls_below (CE.out _))))
        refine wpQuiet_nil ?_
        intro _ hw'
        obtain ⟨pq, rfl⟩ := hw'
        have HB1 := hidIt (HBz.out.trans (pq.h.mono HBz.out.size))
        generalize pq.world = w2 at HB1 ⊢
        clear g0 g1 g2
        go_wp2_with (fail)
        go_ret
        exact ⟨rfl, HB1.out⟩
      | true =>
        have HO' : Hid (∀ j, j < i + 1 → okE (toE (rat L j)) = true) := hidIt (fun j hj => by
          rcases Nat.lt_succ_iff_lt_or_eq.1 hj with h | h
          · exact HO.out j h
          · subst h; exact HOK.out)
        rcases Nat.eq_zero_or_pos i with hz | hp
        · subst hz
          simp only [Nat.zero_mul, Nat.add_zero] at c0 c1 c2
          go_wp2_with (fail)
          generalize wr.alloc (.cells #[.int .i64 xi, .int .i64 xt, .int .i64 xs] 89) = wz at BX HBz HRz ⊢
          haveI := BelowBy.one wz
          have g0 := fun p : BelowBy wz => p.cell (BX.out.c 0 rfl)
          have g1 := fun p : BelowBy wz => p.cell (BX.out.c 1 rfl)
          have g2 := fun p : BelowBy wz => p.cell (BX.out.c 2 rfl)
          refine wp_region_below (by kernel_rfl) (by kernel_rfl) ?_
          repeat (go_big_quiet_step (first | (go_at_call 95; refine calls_below (CE.out _))))
          refine wpQuiet_nil ?_
          intro _ hw'
          obtain ⟨pq, rfl⟩ := hw'
          have HB1 := hidIt (HBz.out.trans (pq.h.mono HBz.out.size))
          generalize pq.world = w2 at HB1 ⊢
          clear g0 g1 g2
          go_wp2_with (fail)
          exact ⟨⟨1, by simp, by omega, HO', hidIt (fun j hj => by omega), HB1⟩, by simp [intOf]; omega⟩
        · obtain ⟨j, rfl⟩ : ∃ j, i = j + 1 := ⟨i - 1, by omega⟩
          have hpos : (0 : Int) < ((j : Int) + 1) := by omega
          have hj8 : (j : Int) ≤ 9223372036854775806 := by omega
          have hj0 : (0 : Int) ≤ (j : Int) := by omega
          obtain ⟨pk, epk⟩ : ∃ pk, (rat L j).1 = pk := ⟨_, rfl⟩
          have hkj : Hid (kat L j = pk) := hidIt epk
          have EPK := hidIt epk
          clear epk
          go_wp2_with (fail)
          generalize wr.alloc (.cells #[.int .i64 xi, .int .i64 xt, .int .i64 xs] 89) = wz at BX HBz HRz ⊢
          haveI := BelowBy.one wz
          have g0 := fun p : BelowBy wz => p.cell (BX.out.c 0 rfl)
          have g1 := fun p : BelowBy wz => p.cell (BX.out.c 1 rfl)
          have g2 := fun p : BelowBy wz => p.cell (BX.out.c 2 rfl)
          obtain ⟨b', off', ea2, q0, _⟩ := HRz.out.all (i := j) (by rw [HN.out]; omega)
          cases ea2
          rw [EPK.out] at q0
          have k0 := fun p : BelowBy wz => p.cell q0
          clear q0
          by_cases hlt : pk < xi
          · have hd : decide (xi ≤ pk) = false := decide_eq_false (by omega)
            have HK' : Hid (∀ q, q + 1 < j + 1 + 1 → kat L q < kat L (q + 1)) := hidIt (fun q hq => by
              rcases Nat.lt_succ_iff_lt_or_eq.1 (show q + 1 < j + 1 + 1 from hq) with h | h
              · exact HK.out q h
              · have : q = j := by omega
                subst this
                rw [hkj.out, hkey.out]
                exact hlt)
            clear hlt
            refine wp_region_below (by kernel_rfl) (by kernel_rfl) ?_
            repeat (go_big_quiet_step (first | (go_at_call 95; refine calls_below (CE.out _))))
            refine wpQuiet_nil ?_
            intro _ hw'
            obtain ⟨pq, rfl⟩ := hw'
            have HB1 := hidIt (HBz.out.trans (pq.h.mono HBz.out.size))
            generalize pq.world = w2 at HB1 ⊢
            clear g0 g1 g2 k0
            go_wp2_with (fail)
            exact ⟨⟨j + 1 + 1, by simp, by omega, HO', HK', HB1⟩, by simp [intOf]; omega⟩
          · have er := N3.out j (by omega) (by rw [hkj.out, hkey.out]; omega)
            have hd : decide (xi ≤ pk) = true := decide_eq_true (by omega)
            subst er
            clear hlt
            refine wp_region_below (by kernel_rfl) (by kernel_rfl) ?_
            repeat (go_big_quiet_step (first | (go_at_call 95; refine calls_below (CE.out _))))
            refine wpQuiet_nil ?_
            intro _ hw'
            obtain ⟨pq, rfl⟩ := hw'
            have HB1 := hidIt (HBz.out.trans (pq.h.mono HBz.out.size))
            generalize pq.world = w2 at HB1 ⊢
            clear g0 g1 g2 k0
            go_wp2_with (fail)
            go_ret
            exact ⟨rfl, HB1.out⟩
    · have hin' : ¬ (i : Int) < (m : Int) := by omega
      have HI : Hid (i = m) := hidIt (by omega)
      have er := N4.out (fun j hj => HO.out j (by have := HI.out; omega)) (fun j hj => HK.out j (by have := HI.out; omega))
      subst er
      go_wp2_with (fail)
      go_ret
      exact ⟨rfl, HB.out⟩
theorem two_boxes (w : World) (o p : Obj) : Below w.heap.size w ((w.alloc o).alloc p) := ((Below.refl _ w).alloc (Nat.le_refl _) _).alloc (by simp) _
set_option maxRecDepth 100000 in
set_option maxHeartbeats 4000000 in
theorem impl_Stronger (x y : Rw) (w : World) : Calls Try.prog 83 #[rv x, rv y] w fun e w' => e = .returned (.bool (newB (toE x) (toE y))) ∧ Below w.heap.size w w' := by
  rw [new_str]
  obtain ⟨a, b, c⟩ := x
  obtain ⟨a', b', c'⟩ := y
  simp only
  by_cases h : b = b'
  · subst h
    rw [decide_eq_false (Int.lt_irrefl b), Bool.false_or, decide_eq_true rfl, Bool.true_and]
    go_enter Try.func83, Try.ntmps83
    go_wp2
    go_ret
    exact ⟨rfl, two_boxes _ _ _⟩
  · have h' : (b == b') = false := by simpa using h
    have h'' : (b != b') = true := by simpa using h
    rw [decide_eq_false h, Bool.false_and, Bool.or_false]
    go_enter Try.func83, Try.ntmps83
    go_wp2
    go_ret
    exact ⟨rfl, two_boxes _ _ _⟩
/-- What a copy comes to. -/
def CopR (n : Nat) (w : World) (A : List Rw) (e : Ending) (w' : World) : Prop := ∃ g c, e = .returned (.slice (some ⟨g, 0, none⟩) n c) ∧ n ≤ c ∧ c ≤ 9223372036854775807 ∧ Own w' w.heap.size (.slice (some ⟨g, 0, none⟩) n c) A ∧ Below w.heap.size w w'
theorem CopR.of {n : Nat} {w w' : World} {A : List Rw} {e : Ending} {g c : Nat} (h : e = .returned (.slice (some ⟨g, 0, none⟩) n c)) (h1 : n ≤ c) (h2 : c ≤ 9223372036854775807) (h3 : Own w' w.heap.size (.slice (some ⟨g, 0, none⟩) n c) A) (h4 : Below w.heap.size w w') : CopR n w A e w' := ⟨g, c, h, h1, h2, h3, h4⟩
theorem CopR.out {n : Nat} {w w' : World} {A : List Rw} {e : Ending} (h : CopR n w A e w') : ∃ g c, e = .returned (.slice (some ⟨g, 0, none⟩) n c) ∧ n ≤ c ∧ c ≤ 9223372036854775807 ∧ Own w' w.heap.size (.slice (some ⟨g, 0, none⟩) n c) A ∧ Below w.heap.size w w' := h
set_option maxRecDepth 100000 in
set_option maxHeartbeats 4000000 in
theorem impl_copied (a : Option Addr) (cap : Nat) (A : List Rw) (w : World) (h : Rd w a A) (hna : a = none → cap = 0) (hl : A.length ≤ 100) :
    Calls Try.prog 80 #[.slice a A.length cap] w fun e w' => CopR A.length w A e w' := by
  obtain ⟨i0, hi0, hz0, hz1, hz2⟩ := info_parts infoRw
  have HRA := hidIt h
  clear h
  generalize hla : A.length = la at *
  have HLA := hidIt hla
  clear hla
  cases a with
  | none =>
    have e := hna rfl
    subst e
    have eA := HRA.out.none_nil
    have e0 : la = 0 := by rw [← HLA.out, eA]; rfl
    subst e0
    go_enter Try.func80, Try.ntmps80
    go_wp2_with (first | (at_builtin; refine wpList_append_own_none rfl _ _ 34 rfl w.heap.size 89 i0 3 Try.underlying34 hi0 _ _ _ rfl (Own.new w) rfl ?_))
    go_wp2_with (fail)
    go_ret
    exact CopR.of rfl (by omega) (by omega) (by first | exact Own.new w | (rw [eA]; exact Own.new w)) ((Below.refl _ w).alloc (Nat.le_refl _) _)
  | some x =>
    have hx : ∃ b off, x = ⟨b, off, none⟩ ∨ la = 0 := by
      rcases Nat.eq_zero_or_pos la with h | h
      · exact ⟨0, 0, .inr h⟩
      · obtain ⟨b, off, e, _⟩ := HRA.out.cell 0 (by rw [HLA.out]; exact h)
        cases e
        exact ⟨b, off, .inl rfl⟩
    have hcl : ∀ W : World, Below w.heap.size w W → ∀ j u, (rcells A)[j]? = some u → W.cell? (x.add j) = some u := by
      intro W k j u hj
      obtain ⟨b, off, h | h⟩ := hx
      · subst h
        exact (HRA.out.kept k).cells j u hj
      · have : A = [] := List.length_eq_zero_iff.1 (HLA.out.trans h)
        rw [this] at hj
        simp [rcells] at hj
    have HCL := hidIt hcl
    clear hx hcl
    go_enter Try.func80, Try.ntmps80
    go_wp2_with (first | (at_builtin; refine wpList_append_own _ rfl _ _ 34 rfl w.heap.size 89 i0 (.agg #[.int .i64 0, .int .i64 0, .int .i64 0]) 3 24 Try.underlying34 hi0 hz0 hz1 hz2 rfl (by decide) _ 0 [] rfl (Own.new w) x la _ (rcells A) rfl (by rw [rcells_length, HLA.out]) (HCL.out _ ((Below.refl _ w).alloc (Nat.le_refl _) _)) (rcells_one _) ?k1c3 ?k1c4 ?k1c5 ?_))
    case k1c3 => unfold maxLen; omega
    case k1c4 => omega
    case k1c5 => simp
    intro v' w9 hown hgrow hnil
    have HO9 : Hid (Own w9 w.heap.size v' A) := hidIt (by
      unfold Own
      rw [HLA.out]
      first | exact hown | (rw [Nat.zero_add, List.nil_append] at hown; exact hown))
    have HB9 := hidIt (((Below.refl w.heap.size w).alloc (Nat.le_refl _) (.cells #[] 89)).grown hgrow (by simp) (fun z hz => by simp [Value.ownBlock] at hz; omega))
    have hv9 : v' ≠ .slice none 0 0 := by first | exact hnil | exact fun e => by have := (hnil.1 e).1; cases this
    obtain ⟨g9, c9, ev9, h9c, h9m, _, _⟩ := HO9.out.some_form hv9
    rw [HLA.out] at ev9 h9c
    subst ev9
    clear hown hgrow hnil hv9
    go_wp2_with (fail)
    go_ret
    exact CopR.of rfl h9c h9m HO9.out HB9.out
end Go.Proofs.Ytllajhieocploaa.Mm
