/-
  Back of the specification. (Written by wip/mkTurn.py.)
-/
import Derived.Test.YtlcbapijpdlolabMbW
namespace Go.Proofs.Ytlcbapijpdlolab.Mk
set_option linter.unusedVariables false
def upE (id t : Int) : En := ⟨id, [], t, 0, false⟩
/-- What Back answers. -/
def backB (A : List En) (id : Int) : List En × Bool :=
  if okBk A = true then (if 0 ≤ id ∧ id ≤ 7 then (match look A id with
    | some e => if e.time = 1000000 then (A, false) else (A.map fun x => if x.key = id then upE id (x.time + 1) else x, true)
    | none => (mergeE A [upE id 0], true)) else (A, false)) else ([], false)
theorem back_no {A : List En} {id : Int} (h : okBk A = false) : backB A id = ([], false) := by unfold backB; rw [if_neg (by rw [h]; decide)]
theorem back_out {A : List En} {id : Int} (h : okBk A = true) (k : ¬ (0 ≤ id ∧ id ≤ 7)) : backB A id = (A, false) := by unfold backB; rw [if_pos h, if_neg k]
theorem back_max {A : List En} {id : Int} {e : En} (h : okBk A = true) (k : 0 ≤ id ∧ id ≤ 7) (hl : look A id = some e) (ht : e.time = 1000000) : backB A id = (A, false) := by unfold backB; rw [if_pos h, if_pos k, hl]; simp [ht]
theorem back_up {A : List En} {id : Int} {e : En} (h : okBk A = true) (k : 0 ≤ id ∧ id ≤ 7) (hl : look A id = some e) (ht : e.time ≠ 1000000) : backB A id = (A.map fun x => if x.key = id then upE id (x.time + 1) else x, true) := by unfold backB; rw [if_pos h, if_pos k, hl]; simp [ht]
theorem upE_ok {id t : Int} (k : 0 ≤ id ∧ id ≤ 7) (ht : 0 ≤ t ∧ t ≤ 1000000) : okE (upE id t) = true := by
  unfold okE upE
  simp only [Bool.and_eq_true, decide_eq_true_eq]
  omega
theorem back_new {A J : List En} {id : Int} (h : okBk A = true) (k : 0 ≤ id ∧ id ≤ 7) (hl : look A id = none) (j : IsJoin A [upE id 0] J) : backB A id = (J, true) := by
  unfold backB
  rw [if_pos h, if_pos k, hl]
  simp only
  rw [(merge_join A [upE id 0] (ok_ris h) (List.pairwise_singleton _ _)).unique j]
end Go.Proofs.Ytlcbapijpdlolab.Mk
namespace Go.Proofs.Ytlcbapijpdlolab.Mm
open Go.ChangeShapes Go.WideShapes Go.ChangeAt Go.RowKit
open Go.Proofs.Ytlcbapijpdlolab.Mk (okE newB okBk look Ris IsJoin mergeB backB upE)
set_option linter.unusedVariables false
theorem look_hit {L : List Rw} {id : Int} {i : Nat} (h : okBk (toB L) = true) (hi : i < L.length) (e : (rat L i).1 = id) : Mk.look (toB L) id = some (toE (rat L i)) := by
  have := Mk.look_mem (Mk.ok_ris h) (List.mem_map.2 ⟨_, rat_mem hi, rfl⟩ : toE (rat L i) ∈ toB L)
  rw [show (toE (rat L i)).key = id from e] at this
  exact this
theorem look_miss {L : List Rw} {id : Int} (h : ∀ j, j < L.length → (rat L j).1 ≠ id) : Mk.look (toB L) id = none :=
  Mk.look_none_of (fun x hx => by
    obtain ⟨y, hy, rfl⟩ := List.mem_map.1 hx
    obtain ⟨j, hj, rfl⟩ := List.mem_iff_getElem.1 hy
    have := h j hj
    rw [rat_at hj] at this
    exact this)
theorem map_up {L : List Rw} {id : Int} {i : Nat} (h : okBk (toB L) = true) (hi : i < L.length) (e : (rat L i).1 = id) : toB (L.set i (id, (rat L i).2.1 + 1, 0)) = (toB L).map fun x => if x.key = id then upE id (x.time + 1) else x := by
  refine List.ext_getElem (by simp) (fun j h1 h2 => ?_)
  have hj : j < L.length := by simpa using h1
  simp only [toB, List.getElem_map, List.getElem_set]
  by_cases q : i = j
  · subst q
    rw [if_pos rfl]
    rw [rat_at hi] at e ⊢
    rw [if_pos (show (toE L[i]).key = id from e)]
    rfl
  · rw [if_neg q, if_neg]
    intro c
    refine q (one_id h hi hj ?_)
    unfold kat
    rw [e, rat_at hj]
    exact c.symm
set_option maxRecDepth 100000 in
set_option maxHeartbeats 4000000 in
theorem spec_Back (a : Option Addr) (cap : Nat) (L : List Rw) (id : Int) (w : World) (h : Rd w a L) (hna : a = none → cap = 0) (hl : L.length ≤ 9223372036854775807) :
    Calls Try.prog 12 #[.slice a L.length cap, .int .i64 id] w fun e w' => ∃ v J, e = .returned (.tuple #[v, .bool (backB (toB L) id).2]) ∧ toB J = (backB (toB L) id).1 ∧ Own w' w.heap.size v J ∧ Below w.heap.size w w' := by
  obtain ⟨i0, hi0, hz0, hz1, hz2⟩ := info_parts infoRw
  have CB := hidIt (spec_MembersOk a cap L w h hl)
  have HR := hidIt h
  cases hok : okBk (toB L) with
  | false =>
    rw [hok] at CB
    rw [Mk.back_no hok]
    clear h hok
    go_enter Try.func12, Try.ntmps12
    go_wp2_with (fail)
    refine CB.out.mono ?_
    rintro e w1 ⟨rfl, k1⟩
    have HB := hidIt k1
    clear k1
    go_wp2_with (fail)
    refine bodyPost_ret (v := .tuple #[.slice (some ⟨w1.heap.size, 0, none⟩) 0 0, .bool false]) (by simp [results, Try.results12, go_sem]) rfl ⟨_, [], rfl, rfl, (Own.new w1).mono HB.out.size, HB.out.alloc HB.out.size _⟩
  | true =>
    rw [hok] at CB
    have h8 := Mk.ok_len hok
    rw [toB_length] at h8
    have T0 := hidIt (fun k => Mk.back_out (id := id) hok k)
    have T1 := hidIt (fun i k hi (e : (rat L i).1 = id) ht => Mk.back_max (id := id) hok k (look_hit (i := i) hok hi e) ht)
    have T2 := hidIt (fun i k hi (e : (rat L i).1 = id) ht => (Mk.back_up (id := id) hok k (look_hit (i := i) hok hi e) ht).trans (by rw [← map_up hok hi e]))
    have T3 := hidIt (fun J k hn j => Mk.back_new (id := id) (J := J) hok k (look_miss hn) j)
    have HRL := hidIt (Mk.ok_ris hok)
    have HTM : Hid (∀ i, i < L.length → 0 ≤ (rat L i).2.1 ∧ (rat L i).2.1 ≤ 1000000) := hidIt (fun i hi => by
      have := Mk.ok_all hok (List.mem_map.2 ⟨_, rat_mem hi, rfl⟩ : toE (rat L i) ∈ toB L)
      unfold okE at this
      simp only [Bool.and_eq_true, toE] at this
      exact ⟨of_decide_eq_true this.1.1.1.2, of_decide_eq_true this.1.1.2⟩)
    have CI := hidIt (fun W => spec_l1In id 0 7 W)
    obtain ⟨ki, eki⟩ : ∃ k, inB id 0 7 = k := ⟨_, rfl⟩
    rw [eki] at CI
    have HKI : Hid (ki = true ↔ (0 ≤ id ∧ id ≤ 7)) := hidIt (by rw [← eki]; unfold inB; simp)
    clear eki
    generalize backB (toB L) id = r at T0 T1 T2 T3 ⊢
    clear h hok
    generalize hn : L.length = m at *
    have HN := hidIt hn
    clear hn
    go_enter Try.func12, Try.ntmps12
    go_wp2_with (fail)
    refine CB.out.mono ?_
    rintro e w1 ⟨rfl, k1⟩
    have HB1 := hidIt k1
    clear k1 CB
    go_upto_region 3 with fail
    go_cut [6] from 12 to 14 (fun s wx => ∃ g cp : Nat, s = .slice (some ⟨g, 0, none⟩) m cp ∧ m ≤ cp ∧ cp ≤ 9223372036854775807 ∧ Hid (Own wx w.heap.size (.slice (some ⟨g, 0, none⟩) m cp) L) ∧ Hid (Below w.heap.size w wx))
    case first =>
      cases a with
      | none =>
        have e := hna rfl
        subst e
        have eA := HR.out.none_nil
        have e0 : m = 0 := by rw [← HN.out, eA]; rfl
        subst e0
        go_wp2_with (first | (at_builtin; refine wpList_append_own_none rfl _ _ 24 rfl w1.heap.size 33 i0 3 Try.underlying24 hi0 _ _ _ rfl (Own.new w1) rfl ?_))
        go_wp2_with (fail)
        go_meet
        case rel => exact ⟨_, 0, rfl, by omega, by omega, hidIt (by rw [eA]; exact (Own.new w1).mono HB1.out.size), hidIt (HB1.out.alloc HB1.out.size _)⟩
      | some x =>
        have hx : ∃ b off, x = ⟨b, off, none⟩ ∨ m = 0 := by
          rcases Nat.eq_zero_or_pos m with h | h
          · exact ⟨0, 0, .inr h⟩
          · obtain ⟨b, off, e, _⟩ := HR.out.cell 0 (by rw [HN.out]; exact h)
            cases e
            exact ⟨b, off, .inl rfl⟩
        have hcl : ∀ W : World, Below w.heap.size w W → ∀ j u, (rcells L)[j]? = some u → W.cell? (x.add j) = some u := by
          intro W k j u hj
          obtain ⟨b, off, h | h⟩ := hx
          · subst h
            exact (HR.out.kept k).cells j u hj
          · have : L = [] := List.length_eq_zero_iff.1 (HN.out.trans h)
            rw [this] at hj
            simp [rcells] at hj
        have HCL := hidIt hcl
        clear hx hcl
        go_wp2_with (first | (at_builtin; refine wpList_append_own _ rfl _ _ 24 rfl w1.heap.size 33 i0 (.agg #[.int .i64 0, .int .i64 0, .int .i64 0]) 3 24 Try.underlying24 hi0 hz0 hz1 hz2 rfl (by decide) _ 0 [] rfl (Own.new w1) x m _ (rcells L) rfl (by rw [rcells_length, HN.out]) (HCL.out _ (HB1.out.alloc HB1.out.size _)) (rcells_one _) ?t2c3 ?t2c4 ?t2c5 ?_))
        case t2c3 => unfold maxLen; omega
        case t2c4 => omega
        case t2c5 => simp
        intro v' w9 hown hgrow hnil
        have HO9 : Hid (Own w9 w1.heap.size v' L) := hidIt (by
          unfold Own
          rw [HN.out]
          first | exact hown | (rw [Nat.zero_add, List.nil_append] at hown; exact hown))
        have HB9 := hidIt (HB1.out.trans ((((Below.refl w1.heap.size w1).alloc (Nat.le_refl _) (.cells #[] 33)).grown hgrow (by simp) (fun z hz => by simp [Value.ownBlock] at hz; omega)).mono HB1.out.size))
        have hv9 : v' ≠ .slice none 0 0 := by first | exact hnil | exact fun e => by have := (hnil.1 e).1; cases this
        obtain ⟨g9, c9, ev9, h9c, h9m, _, _⟩ := HO9.out.some_form hv9
        rw [HN.out] at ev9 h9c
        subst ev9
        clear hown hgrow hnil hv9
        go_wp2_with (fail)
        go_meet
        case rel => exact ⟨g9, c9, rfl, h9c, h9m, hidIt (HO9.out.mono HB1.out.size), HB9⟩
    case rest =>
      obtain ⟨g, cp, rfl, hmc, hcm, HO, HB⟩ := hcut
      clear HB1 HR hna
      go_wp2_with (fail)
      refine (CI.out _).mono ?_
      rintro e w2 ⟨rfl, ew2⟩
      rw [ew2]
      clear ew2 CI
      cases ki with
      | false =>
        have er := T0.out (fun k => absurd (HKI.out.2 k) (by decide))
        subst er
        go_wp2_with (fail)
        refine bodyPost_ret (v := .tuple #[.slice (some ⟨g, 0, none⟩) m cp, .bool false]) (by simp [results, Try.results12, go_sem]) rfl (by first | exact ⟨_, L, rfl, rfl, HO.out, HB.out⟩ | exact ⟨_, rfl, L, rfl, HO.out, HB.out⟩)
      | true =>
        have HKK := hidIt (HKI.out.1 rfl)
        clear HKI T0
        go_wp2_with (fail)
        go_loopw [7] (fun y wx => ∃ i : Nat, y = .int .i64 i ∧ i ≤ m ∧ Hid (∀ j, j < i → (rat L j).1 ≠ id) ∧ Hid (wx = wc)) (fun y _ => (m - intOf y).toNat)
        case atStart => exact ⟨0, rfl, by omega, hidIt (fun j hj => by omega), hidIt rfl⟩
        case round =>
          obtain ⟨i, rfl, hi, HE, HW⟩ := hrel
          have ew := HW.out
          subst ew
          by_cases hin : i < m
          · have hin' : (i : Int) < (m : Int) := by omega
            have hiL : i < L.length := by rw [HN.out]; exact hin
            have y0 := HO.out.at hiL (j := 0) (by omega)
            have y1 := HO.out.at hiL (j := 1) (by omega)
            have y2 := HO.out.at hiL (j := 2) (by omega)
            have q0 := HO.out.free (i * 3)
            have q1 := HO.out.free (i * 3 + 1)
            have q2 := HO.out.free (i * 3 + 2)
            simp only [rcell, Nat.add_zero] at y0 y1 y2
            have HT1 := hidIt (fun e ht => T1.out i HKK.out hin e ht)
            have HT2 := hidIt (fun e ht => T2.out i HKK.out hin e ht)
            have HWh := hidIt (fun t : Int => HO.out.whole hiL (id, t, 0))
            have HTi := HTM.out i hin
            have HE' : Hid ((rat L i).1 ≠ id → ∀ j, j < i + 1 → (rat L j).1 ≠ id) := hidIt (fun q j hj => by
              rcases Nat.lt_succ_iff_lt_or_eq.1 hj with h | h
              · exact HE.out j h
              · subst h; exact q)
            have hgB : w.heap.size ≤ g := by obtain ⟨cur, h, _⟩ := own_row HO.out; exact h
            clear HE
            generalize rat L i = x at y0 y1 y2 HT1 HT2 HE' HTi
            obtain ⟨xi, xt, xs⟩ := x
            simp only [toE] at y0 y1 y2 HT1 HT2 HE' HTi
            by_cases h1 : xi = id
            · have e1 : (xi != id) = false := by simpa using h1
              by_cases h2 : xt = 1000000
              · have e2 : (xt == 1000000) = true := by simpa using h2
                have er := HT1.out h1 h2
                subst er
                clear h1 h2 HT1 HT2 HE' HTi HWh
                go_wp2_with (fail)
                refine bodyPost_ret (v := .tuple #[.slice (some ⟨g, 0, none⟩) m cp, .bool false]) (by simp [results, Try.results12, go_sem]) rfl (by first | exact ⟨_, L, rfl, rfl, HO.out, HB.out⟩ | exact ⟨_, rfl, L, rfl, HO.out, HB.out⟩)
              · have e2 : (xt == 1000000) = false := by simpa using h2
                have er := HT2.out h1 h2
                have hs1 : ¬ 9223372036854775807 < xt + 1 := by omega
                have hs2 : ¬ xt + 1 < -9223372036854775808 := by omega
                have HO2 := hidIt (HWh.out (xt + 1))
                have HB2 := hidIt (((HB.out.setCell (p := ⟨g, i * 3, none⟩) hgB (.int .i64 id)).setCell (p := ⟨g, i * 3 + 1, none⟩) hgB (.int .i64 (xt + 1))).setCell (p := ⟨g, i * 3 + 2, none⟩) hgB (.int .i64 0))
                subst er
                clear h1 h2 HT1 HT2 HE' HTi HWh
                go_wp2_with (fail)
                refine bodyPost_ret (v := .tuple #[.slice (some ⟨g, 0, none⟩) m cp, .bool true]) (by simp [results, Try.results12, go_sem]) rfl (by first | exact ⟨_, _, rfl, rfl, HO2.out, HB2.out⟩ | exact ⟨_, rfl, _, rfl, HO2.out, HB2.out⟩ | exact ⟨_, rfl, L.set i (id, xt + 1, 0), List.map_set, HO2.out, HB2.out⟩ | exact ⟨_, rfl, L.set i (id, xt + 1, 0), by rw [toB, List.map_set], HO2.out, HB2.out⟩)
            · have e1 : (xi != id) = true := by simpa using h1
              have HE2 := hidIt (HE'.out h1)
              clear h1 HT1 HT2 HE' HTi HWh
              go_wp2_with (fail)
              exact ⟨⟨i + 1, by simp, by omega, HE2, by first | exact hidIt rfl | exact hidIt trivial⟩, by simp [intOf]; omega⟩
          · have hin' : ¬ (i : Int) < (m : Int) := by omega
            have HI : Hid (i = m) := hidIt (by omega)
            have HNo := hidIt (fun j (hj : j < m) => HE.out j (by have := HI.out; omega))
            have hR3 : Rd (wr.alloc (.cells #[.int .i64 id, .int .i64 0, .int .i64 0] 33)) (some ⟨wr.heap.size, 0, none⟩) [(id, 0, 0)] := by
              obtain ⟨_, _, e1, _, _, r, _⟩ := (Own.one wr (id, 0, 0) rfl).form
              rw [(Value.slice.inj e1).1]
              exact r
            have HBa := hidIt (HB.out.alloc HB.out.size (.cells #[.int .i64 id, .int .i64 0, .int .i64 0] 33))
            have hrL : Rd (wr.alloc (.cells #[.int .i64 id, .int .i64 0, .int .i64 0] 33)) (some ⟨g, 0, none⟩) L := by
              obtain ⟨a', _, e1, _, _, r, _⟩ := (HO.out.alloc (.cells #[.int .i64 id, .int .i64 0, .int .i64 0] 33)).form
              rw [(Value.slice.inj e1).1]
              exact r
            have CJ := hidIt (spec_l12Merge (some ⟨g, 0, none⟩) (some ⟨wr.heap.size, 0, none⟩) cp 1 L [(id, 0, 0)] _ hrL hR3 (fun e => by cases e) HRL.out (List.pairwise_singleton _ _) (by rw [HN.out]; simp; omega))
            rw [HN.out] at CJ
            simp only [List.length_singleton] at CJ
            clear hR3 hrL HE
            go_wp2_with (fail)
            refine CJ.out.mono ?_
            rintro e w4 ⟨v, J, rfl, _, o4, j4, l4, k4⟩
            have er := T3.out (toB J) HKK.out HNo.out j4
            have HO4 := hidIt (o4.mono HBa.out.size)
            have HB4 := hidIt (HBa.out.trans (k4.mono HBa.out.size))
            subst er
            clear o4 j4 l4 k4 CJ
            obtain ⟨za, zc, ez, _⟩ := HO4.out.form
            subst ez
            go_wp2_with (fail)
            refine bodyPost_ret (v := .tuple #[.slice za J.length zc, .bool true]) (by simp [results, Try.results12, go_sem]) rfl (by first | exact ⟨_, J, rfl, rfl, HO4.out, HB4.out⟩ | exact ⟨_, rfl, J, rfl, HO4.out, HB4.out⟩)
end Go.Proofs.Ytlcbapijpdlolab.Mm
