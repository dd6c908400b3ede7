/-
  l12Turn, Doubted, Dropped of the specification. (Written by wip/mkTurn.py.)
-/
import Derived.Test.YtlcbapijpdlolabMbV
namespace Go.Proofs.Ytlcbapijpdlolab.Mm
open Go.ChangeShapes Go.WideShapes Go.ChangeAt Go.RowKit
open Go.Proofs.Ytlcbapijpdlolab.Mk (okE newB okBk look Ris IsJoin mergeB)
set_option linter.unusedVariables false
/-- One of an Id and a State becomes one of the next. -/
def turnR (L : List Rw) (id st : Int) : List Rw × Bool := if okBk (toB L) = true then (L.map fun x => if x.1 = id ∧ x.2.2 = st then (x.1, x.2.1, st + 1) else x, L.any fun x => decide (x.1 = id ∧ x.2.2 = st)) else ([], false)
theorem turn_no {L : List Rw} {id st : Int} (h : okBk (toB L) = false) : turnR L id st = ([], false) := by unfold turnR; rw [if_neg (by rw [h]; decide)]
theorem one_id {L : List Rw} (h : okBk (toB L) = true) {i j : Nat} (hi : i < L.length) (hj : j < L.length) (e : kat L i = kat L j) : i = j := by
  have r := Mk.ok_ris h
  unfold Ris at r
  rw [List.pairwise_iff_getElem] at r
  unfold kat at e
  rw [rat_at hi, rat_at hj] at e
  rcases Nat.lt_trichotomy i j with q | q | q
  · have := r i j (by rw [List.length_map]; exact hi) (by rw [List.length_map]; exact hj) q
    rw [List.getElem_map, List.getElem_map] at this
    simp only [toE] at this
    omega
  · exact q
  · have := r j i (by rw [List.length_map]; exact hj) (by rw [List.length_map]; exact hi) q
    rw [List.getElem_map, List.getElem_map] at this
    simp only [toE] at this
    omega
theorem turn_hit {L : List Rw} {id st : Int} {i : Nat} (h : okBk (toB L) = true) (hi : i < L.length) (h1 : (rat L i).1 = id) (h2 : (rat L i).2.2 = st) : turnR L id st = (L.set i (id, (rat L i).2.1, st + 1), true) := by
  unfold turnR
  rw [if_pos h]
  refine Prod.ext ?_ ?_
  · refine ext_rat (by simp) (fun j hj => ?_)
    have hj' : j < L.length := by simpa using hj
    rw [rat_set hi, rat_at (by simpa using hj'), List.getElem_map]
    by_cases e : i = j
    · subst e
      rw [if_pos rfl]
      rw [rat_at hi] at h1 h2 ⊢
      rw [if_pos ⟨h1, h2⟩, h1]
    · rw [if_neg e, if_neg (fun q => e (one_id h hi hj' (by unfold kat; rw [h1, rat_at hj']; exact q.1.symm))), rat_at hj']
  · rw [List.any_eq_true]
    exact ⟨rat L i, rat_mem hi, decide_eq_true ⟨h1, h2⟩⟩
theorem turn_miss {L : List Rw} {id st : Int} (h : okBk (toB L) = true) (hn : ∀ i, i < L.length → ¬ ((rat L i).1 = id ∧ (rat L i).2.2 = st)) : turnR L id st = (L, false) := by
  unfold turnR
  rw [if_pos h]
  have hm : ∀ x ∈ L, ¬ (x.1 = id ∧ x.2.2 = st) := fun x hx => by
    obtain ⟨i, hi, e⟩ := List.mem_iff_getElem.1 hx
    have := hn i hi
    rw [rat_at hi, e] at this
    exact this
  refine Prod.ext ?_ ?_
  · show List.map _ L = L
    conv => rhs; rw [← List.map_id L]
    exact List.map_congr_left (fun x hx => if_neg (hm x hx))
  · rw [List.any_eq_false]
    intro x hx
    simpa using hm x hx
set_option maxRecDepth 100000 in
set_option maxHeartbeats 4000000 in
theorem spec_l12Turn (a : Option Addr) (cap : Nat) (L : List Rw) (id st : Int) (w : World) (h : Rd w a L) (hna : a = none → cap = 0) (hl : L.length ≤ 9223372036854775807) (hst : 0 ≤ st ∧ st ≤ 1) :
    Calls Try.prog 14 #[.slice a L.length cap, .int .i64 id, .int .i64 st] w fun e w' => ∃ v, e = .returned (.tuple #[v, .bool (turnR L id st).2]) ∧ Own w' w.heap.size v (turnR L id st).1 ∧ Below w.heap.size w w' := by
  obtain ⟨i0, hi0, hz0, hz1, hz2⟩ := info_parts infoRw
  have CB := hidIt (spec_MembersOk a cap L w h hl)
  have HR := hidIt h
  cases hok : okBk (toB L) with
  | false =>
    rw [hok] at CB
    rw [turn_no hok]
    clear h hok
    go_enter Try.func14, Try.ntmps14
    go_wp2_with (fail)
    refine CB.out.mono ?_
    rintro e w1 ⟨rfl, k1⟩
    have HB := hidIt k1
    clear k1
    go_wp2_with (fail)
    refine bodyPost_ret (v := .tuple #[.slice (some ⟨w1.heap.size, 0, none⟩) 0 0, .bool false]) (by simp [results, Try.results14, go_sem]) rfl ⟨_, rfl, (Own.new w1).mono HB.out.size, HB.out.alloc HB.out.size _⟩
  | true =>
    rw [hok] at CB
    have h8 := Mk.ok_len hok
    rw [toB_length] at h8
    have T1 := hidIt (fun i hi h1 h2 => turn_hit (L := L) (id := id) (st := st) (i := i) hok hi h1 h2)
    have T2 := hidIt (fun hn => turn_miss (L := L) (id := id) (st := st) hok hn)
    generalize turnR L id st = r at T1 T2 ⊢
    clear h hok
    generalize hn : L.length = m at *
    have HN := hidIt hn
    clear hn
    have hs1 : ¬ 9223372036854775807 < st + 1 := by omega
    have hs2 : ¬ st + 1 < -9223372036854775808 := by omega
    go_enter Try.func14, Try.ntmps14
    go_wp2_with (fail)
    refine CB.out.mono ?_
    rintro e w1 ⟨rfl, k1⟩
    have HB1 := hidIt k1
    clear k1 CB
    go_upto_region 3 with fail
    go_cut [8] from 14 to 16 (fun s wx => ∃ g cp : Nat, s = .slice (some ⟨g, 0, none⟩) m cp ∧ m ≤ cp ∧ cp ≤ 9223372036854775807 ∧ Hid (Own wx w.heap.size (.slice (some ⟨g, 0, none⟩) m cp) L) ∧ Hid (Below w.heap.size w wx))
    case first =>
      cases a with
      | none =>
        have e := hna rfl
        subst e
        have eA := HR.out.none_nil
        have e0 : m = 0 := by rw [← HN.out, eA]; rfl
        subst e0
        go_wp2_with (first | (at_builtin; refine wpList_append_own_none rfl _ _ 24 rfl w1.heap.size 33 i0 3 Try.underlying24 hi0 _ _ _ rfl (Own.new w1) rfl ?_))
        go_wp2_with (fail)
        go_meet
        case rel => exact ⟨_, 0, rfl, by omega, by omega, hidIt (by rw [eA]; exact (Own.new w1).mono HB1.out.size), hidIt (HB1.out.alloc HB1.out.size _)⟩
      | some x =>
        have hx : ∃ b off, x = ⟨b, off, none⟩ ∨ m = 0 := by
          rcases Nat.eq_zero_or_pos m with h | h
          · exact ⟨0, 0, .inr h⟩
          · obtain ⟨b, off, e, _⟩ := HR.out.cell 0 (by rw [HN.out]; exact h)
            cases e
            exact ⟨b, off, .inl rfl⟩
        have hcl : ∀ W : World, Below w.heap.size w W → ∀ j u, (rcells L)[j]? = some u → W.cell? (x.add j) = some u := by
          intro W k j u hj
          obtain ⟨b, off, h | h⟩ := hx
          · subst h
            exact (HR.out.kept k).cells j u hj
          · have : L = [] := List.length_eq_zero_iff.1 (HN.out.trans h)
            rw [this] at hj
            simp [rcells] at hj
        have HCL := hidIt hcl
        clear hx hcl
        go_wp2_with (first | (at_builtin; refine wpList_append_own _ rfl _ _ 24 rfl w1.heap.size 33 i0 (.agg #[.int .i64 0, .int .i64 0, .int .i64 0]) 3 24 Try.underlying24 hi0 hz0 hz1 hz2 rfl (by decide) _ 0 [] rfl (Own.new w1) x m _ (rcells L) rfl (by rw [rcells_length, HN.out]) (HCL.out _ (HB1.out.alloc HB1.out.size _)) (rcells_one _) ?t1c3 ?t1c4 ?t1c5 ?_))
        case t1c3 => unfold maxLen; omega
        case t1c4 => omega
        case t1c5 => simp
        intro v' w9 hown hgrow hnil
        have HO9 : Hid (Own w9 w1.heap.size v' L) := hidIt (by
          unfold Own
          rw [HN.out]
          first | exact hown | (rw [Nat.zero_add, List.nil_append] at hown; exact hown))
        have HB9 := hidIt (HB1.out.trans ((((Below.refl w1.heap.size w1).alloc (Nat.le_refl _) (.cells #[] 33)).grown hgrow (by simp) (fun z hz => by simp [Value.ownBlock] at hz; omega)).mono HB1.out.size))
        have hv9 : v' ≠ .slice none 0 0 := by first | exact hnil | exact fun e => by have := (hnil.1 e).1; cases this
        obtain ⟨g9, c9, ev9, h9c, h9m, _, _⟩ := HO9.out.some_form hv9
        rw [HN.out] at ev9 h9c
        subst ev9
        clear hown hgrow hnil hv9
        go_wp2_with (fail)
        go_meet
        case rel => exact ⟨g9, c9, rfl, h9c, h9m, hidIt (HO9.out.mono HB1.out.size), HB9⟩
    case rest =>
      obtain ⟨g, cp, rfl, hmc, hcm, HO, HB⟩ := hcut
      clear HB1 HR hna
      go_wp2_with (fail)
      go_loopw [9] (fun y wx => ∃ i : Nat, y = .int .i64 i ∧ i ≤ m ∧ Hid (∀ j, j < i → ¬ ((rat L j).1 = id ∧ (rat L j).2.2 = st)) ∧ Hid (wx = wc)) (fun y _ => (m - intOf y).toNat)
      case atStart => exact ⟨0, rfl, by omega, hidIt (fun j hj => by omega), hidIt rfl⟩
      case round =>
        obtain ⟨i, rfl, hi, HE, HW⟩ := hrel
        have ew := HW.out
        subst ew
        by_cases hin : i < m
        · have hin' : (i : Int) < (m : Int) := by omega
          have hiL : i < L.length := by rw [HN.out]; exact hin
          have y0 := HO.out.at hiL (j := 0) (by omega)
          have y1 := HO.out.at hiL (j := 1) (by omega)
          have y2 := HO.out.at hiL (j := 2) (by omega)
          have q2 := HO.out.free (i * 3 + 2)
          simp only [rcell, Nat.add_zero] at y0 y1 y2
          have HT := hidIt (fun h1 h2 => T1.out i hin h1 h2)
          have HS := hidIt (fun (h1 : (rat L i).1 = id) (h2 : (rat L i).2.2 = st) => HO.out.set (i := i) (j := 2) (v := .int .i64 (st + 1)) (y := (id, (rat L i).2.1, st + 1)) hiL (by omega) (fun k hk => by
            match k, hk with
            | 0, _ => rw [if_neg (by decide)]; show Value.int .i64 id = .int .i64 (rat L i).1; rw [h1]
            | 1, _ => rfl
            | 2, _ => rfl))
          have HE' : Hid (¬ ((rat L i).1 = id ∧ (rat L i).2.2 = st) → ∀ j, j < i + 1 → ¬ ((rat L j).1 = id ∧ (rat L j).2.2 = st)) := hidIt (fun q j hj => by
            rcases Nat.lt_succ_iff_lt_or_eq.1 hj with h | h
            · exact HE.out j h
            · subst h; exact q)
          have hgB : w.heap.size ≤ g := by obtain ⟨cur, h, _⟩ := own_row HO.out; exact h
          clear HE
          generalize rat L i = x at y0 y1 y2 HT HS HE'
          obtain ⟨xi, xt, xs⟩ := x
          simp only at y0 y1 y2 HT HS HE'
          by_cases h1 : xi = id
          · have e1 : (xi == id) = true := by simpa using h1
            by_cases h2 : xs = st
            · have e2 : (xs == st) = true := by simpa using h2
              have er := HT.out h1 h2
              have HO2 := hidIt (HS.out h1 h2)
              have HB2 := hidIt (HB.out.setCell (p := ⟨g, i * 3 + 2, none⟩) hgB (.int .i64 (st + 1)))
              subst er
              clear h1 h2 HT HS HE'
              go_wp2_with (fail)
              refine bodyPost_ret (v := .tuple #[.slice (some ⟨g, 0, none⟩) m cp, .bool true]) (by simp [results, Try.results14, go_sem]) rfl ⟨_, rfl, HO2.out, HB2.out⟩
            · have e2 : (xs == st) = false := by simpa using h2
              have HE2 := hidIt (HE'.out (fun q => h2 q.2))
              clear h1 h2 HT HS HE'
              go_wp2_with (fail)
              exact ⟨⟨i + 1, by simp, by omega, HE2, by first | exact hidIt rfl | exact hidIt trivial⟩, by simp [intOf]; omega⟩
          · have e1 : (xi == id) = false := by simpa using h1
            have HE2 := hidIt (HE'.out (fun q => h1 q.1))
            clear h1 HT HS HE'
            go_wp2_with (fail)
            exact ⟨⟨i + 1, by simp, by omega, HE2, by first | exact hidIt rfl | exact hidIt trivial⟩, by simp [intOf]; omega⟩
        · have hin' : ¬ (i : Int) < (m : Int) := by omega
          have HI : Hid (i = m) := hidIt (by omega)
          have er := T2.out (fun j hj => HE.out j (by have := HI.out; omega))
          subst er
          go_wp2_with (fail)
          refine bodyPost_ret (v := .tuple #[.slice (some ⟨g, 0, none⟩) m cp, .bool false]) (by simp [results, Try.results14, go_sem]) rfl ⟨_, rfl, HO.out, HB.out⟩
set_option maxRecDepth 100000 in
set_option maxHeartbeats 4000000 in
theorem spec_Dropped (a : Option Addr) (cap : Nat) (L : List Rw) (id : Int) (w : World) (h : Rd w a L) (hna : a = none → cap = 0) (hl : L.length ≤ 9223372036854775807) :
    Calls Try.prog 6 #[.slice a L.length cap, .int .i64 id] w fun e w' => ∃ v, e = .returned (.tuple #[v, .bool (turnR L id 1).2]) ∧ Own w' w.heap.size v (turnR L id 1).1 ∧ Below w.heap.size w w' := by
  have C := hidIt (spec_l12Turn a cap L id 1 w h hna hl (by decide))
  generalize turnR L id 1 = r at C ⊢
  clear h hna
  go_enter Try.func6, Try.ntmps6
  go_wp2_with (fail)
  refine C.out.mono ?_
  rintro e w1 ⟨v, rfl, o1, k1⟩
  have HO := hidIt o1
  have HB := hidIt k1
  clear o1 k1
  obtain ⟨za, zc, ez, _⟩ := HO.out.form
  subst ez
  go_wp2_with (fail)
  refine bodyPost_ret (v := .tuple #[.slice za r.1.length zc, .bool r.2]) (by simp [results, Try.results6, go_sem]) rfl ⟨_, rfl, HO.out, HB.out⟩
end Go.Proofs.Ytlcbapijpdlolab.Mm
