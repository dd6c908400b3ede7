/-
  Doubted, Dropped and Back of the program.
-/
import Derived.Test.YtlcbapijpdlolabMbO
import Derived.Test.YtlcbapijpdlolabMbI
namespace Go.Proofs.Ytlcbapijpdlolab.Mm
open Go.ChangeShapes Go.WideShapes Go.ChangeAt Go.RowKit
open Go.Proofs.Ytlcbapijpdlolab.Mk (okE newB okBk look Ris IsJoin mergeB backB upE)
set_option linter.unusedVariables false
theorem st_of {x : Rw} (h : okE (toE x) = true) : (0 ≤ x.2.1 ∧ x.2.1 ≤ 1000000) ∧ (x.2.2 = 0 ∨ x.2.2 = 1 ∨ x.2.2 = 2) := by
  rw [okE_eq] at h
  unfold inB at h
  simp only [Bool.and_eq_true, decide_eq_true_eq] at h
  omega
/-- One of State st becomes one of the next, all others stay. -/
def nxT (st : Int) (x : Rw) : Rw := if x.2.2 = st then (x.1, x.2.1, st + 1) else x
def chT (st : Int) (x : Rw) : Bool := decide (x.2.2 = st)
theorem turn_of {L M : List Rw} {id st : Int} {b : Bool} (h : ChR L id (nxT st) (chT st) M b) : turnR L id st = (M, b) := by
  cases ok : okBk (toB L) with
  | false =>
    obtain ⟨rfl, rfl⟩ := h.no ok
    exact turn_no ok
  | true =>
    by_cases hk : ∃ k, k < L.length ∧ kat L k = id
    · obtain ⟨k, hk, e⟩ := hk
      obtain ⟨rfl, rfl⟩ := h.yes ok k hk e
      unfold nxT chT
      by_cases hs : (rat L k).2.2 = st
      · rw [if_pos hs, decide_eq_true hs, turn_hit ok hk e hs]
        unfold kat at e
        rw [e]
      · rw [if_neg hs, decide_eq_false hs, turn_miss ok (fun j hj q => by
          obtain rfl := one_id ok hk hj (e.trans q.1.symm)
          exact hs q.2)]
        refine Prod.ext ?_ rfl
        refine ext_rat (by rw [List.length_set]) (fun j hj => ?_)
        rw [rat_set hk]
        split
        · rename_i q; rw [q]
        · rfl
    · obtain ⟨rfl, rfl⟩ := h.miss ok (fun k hk' e => hk ⟨k, hk', e⟩)
      exact turn_miss ok (fun j hj q => hk ⟨j, hj, q.1⟩)
theorem ent_doubt : Enters Try.prog 37 := enters_of Try.func37 (by kernel_rfl) rfl
theorem ent_stays : Enters Try.prog 38 := enters_of Try.func38 (by kernel_rfl) rfl
theorem ent_drop : Enters Try.prog 40 := enters_of Try.func40 (by kernel_rfl) rfl
theorem ent_revive : Enters Try.prog 39 := enters_of Try.func39 (by kernel_rfl) rfl
theorem ent_pp : Enters Try.prog 17 := enters_of Try.func17 (by kernel_rfl) rfl
theorem dropped_q (x : Rw) (h : okE (toE x) = true) : Enters Try.prog (selS (fun _ g _ => g) x.2.2) ∧ ∀ W, Calls Try.prog (selS (fun _ g _ => g) x.2.2) #[rv x] W fun e w' => e = .returned (.tuple #[rv (nxT 1 x), .bool (chT 1 x)]) ∧ Below W.heap.size W w' := by
  obtain ⟨_, hs⟩ := st_of h
  clear h
  unfold nxT chT
  rcases hs with hs | hs | hs
  · have hn : ¬ x.2.2 = 1 := by omega
    rw [if_neg hn, decide_eq_false hn]
    have e : selS (fun _ g _ => g) x.2.2 = 38 := by rw [hs]; rfl
    rw [e]
    exact ⟨ent_stays, fun W => impl_stays x W⟩
  · rw [if_pos hs, decide_eq_true hs]
    have e : selS (fun _ g _ => g) x.2.2 = 40 := by rw [hs]; rfl
    rw [e]
    exact ⟨ent_drop, fun W => impl_drop x W⟩
  · have hn : ¬ x.2.2 = 1 := by omega
    rw [if_neg hn, decide_eq_false hn]
    have e : selS (fun _ g _ => g) x.2.2 = 38 := by rw [hs]; rfl
    rw [e]
    exact ⟨ent_stays, fun W => impl_stays x W⟩
set_option maxRecDepth 100000 in
set_option maxHeartbeats 4000000 in
theorem impl_Dropped (a : Option Addr) (cap : Nat) (L : List Rw) (id : Int) (w : World) (h : Rd w a L) (hna : a = none → cap = 0) (hl : L.length ≤ 9223372036854775807) :
    Calls Try.prog 8 #[.slice a L.length cap, .int .i64 id] w fun e w' => ∃ v, e = .returned (.tuple #[v, .bool (turnR L id 1).2]) ∧ Own w' w.heap.size v (turnR L id 1).1 ∧ Below w.heap.size w w' := by
  have C := hidIt (impl_changed 17 (fun _ g _ => g) (nxT 1) (chT 1) ent_pp pick_dropped dropped_q a cap L id w h hna hl)
  have HT := hidIt (fun M b (h : ChR L id (nxT 1) (chT 1) M b) => turn_of h)
  generalize turnR L id 1 = r at HT ⊢
  clear h hna
  generalize L.length = m at *
  go_enter Try.func8, Try.ntmps8
  go_wp2_with (fail)
  refine C.out.mono ?_
  intro e w1 hz
  obtain ⟨v, M, b, rfl, hr, o1, k1⟩ := hz.out
  have er := HT.out M b hr
  subst er
  have HO := hidIt o1
  have HB := hidIt k1
  clear o1 k1 hz hr HT C
  obtain ⟨za, zc, ez, _⟩ := HO.out.form
  subst ez
  go_wp2_with (fail)
  refine bodyPost_ret (v := .tuple #[.slice za M.length zc, .bool b]) (by simp [results, Try.results8, go_sem]) rfl ⟨_, rfl, HO.out, HB.out⟩
theorem take_put {L : List Rw} {k : Nat} {x : Rw} : toB (L.take k ++ x :: L.drop k) = (toB L).take k ++ toE x :: (toB L).drop k := by
  rw [toB, List.map_append, List.map_cons, List.map_take, List.map_drop]
theorem At.below {L : List Rw} {id : Int} {k : Nat} {is : Bool} (h : At L id k is) : ∀ e ∈ (toB L).take k, e.key < id := by
  intro e he
  obtain ⟨j, hj, rfl⟩ := List.mem_iff_getElem.1 he
  rw [List.length_take, List.length_map] at hj
  rw [List.getElem_take, List.getElem_map]
  have := h.lo j (by omega)
  unfold kat at this
  rw [rat_at (by omega)] at this
  exact this
theorem At.above {L : List Rw} {id : Int} {k : Nat} (hr : Ris (toB L)) (h : At L id k false) : ∀ e ∈ (toB L).drop k, id < e.key := by
  intro e he
  obtain ⟨j, hj, rfl⟩ := List.mem_iff_getElem.1 he
  rw [List.length_drop, List.length_map] at hj
  rw [List.getElem_drop, List.getElem_map]
  have hne := h.none hr (k + j) (by omega)
  have hhi := h.hi (by omega)
  unfold kat at hne hhi
  rw [rat_at (by omega)] at hne hhi
  have hle : (L[k]).1 ≤ (L[k + j]).1 := by
    rcases Nat.eq_zero_or_pos j with q | q
    · subst q; exact Int.le_refl _
    · have r := hr
      unfold Ris at r
      rw [List.pairwise_iff_getElem] at r
      have := r k (k + j) (by rw [List.length_map]; omega) (by rw [List.length_map]; omega) (by omega)
      rw [List.getElem_map, List.getElem_map] at this
      exact Int.le_of_lt this
  show id < (L[k + j]).1
  omega
theorem back_put {L : List Rw} {id : Int} {k : Nat} (ok : okBk (toB L) = true) (h : At L id k false) (hid : 0 ≤ id ∧ id ≤ 7) : backB (toB L) id = (toB (L.take k ++ (id, 0, 0) :: L.drop k), true) := by
  have hr := Mk.ok_ris ok
  refine Mk.back_new ok hid (look_miss (fun j hj => h.none hr j hj)) ?_
  rw [take_put]
  have := Mk.join_ins (A := toB L) (B := []) (X := (toB L).take k) (Y := (toB L).drop k) (b := toE (id, 0, 0)) (by rw [List.take_append_drop]; exact Mk.join_start hr) rfl h.below (h.above hr)
  exact this
theorem back_ch {L M : List Rw} {id : Int} {b : Bool} (h : ChR L id revN revB M b) (hw : (∃ k, k < L.length ∧ kat L k = id) ∨ (¬ (0 ≤ id ∧ id ≤ 7) ∧ ∀ k, k < L.length → kat L k ≠ id)) : backB (toB L) id = (toB M, b) := by
  cases ok : okBk (toB L) with
  | false =>
    obtain ⟨rfl, rfl⟩ := h.no ok
    exact Mk.back_no ok
  | true =>
    rcases hw with ⟨k, hk, e⟩ | ⟨hn, hm⟩
    · have hok := Mk.ok_all ok (List.mem_map.2 ⟨_, rat_mem hk, rfl⟩ : toE (rat L k) ∈ toB L)
      have hid : 0 ≤ id ∧ id ≤ 7 := by
        have := Mk.okE_key hok
        unfold kat at e
        rw [← e]
        exact this
      obtain ⟨rfl, rfl⟩ := h.yes ok k hk e
      unfold revN revB
      by_cases ht : (rat L k).2.1 = 1000000
      · rw [if_pos ht, decide_eq_false (by simp [ht]), Mk.back_max ok hid (look_hit ok hk e) ht]
        refine Prod.ext ?_ rfl
        show toB L = toB _
        congr 1
        refine ext_rat (by rw [List.length_set]) (fun j hj => ?_)
        rw [rat_set hk]
        split
        · rename_i q; rw [q]
        · rfl
      · rw [if_neg ht, decide_eq_true ht, Mk.back_up ok hid (look_hit ok hk e) ht]
        refine Prod.ext ?_ rfl
        have e' : (rat L k).1 = id := e
        rw [e']
        exact (map_up ok hk e).symm
    · obtain ⟨rfl, rfl⟩ := h.miss ok hm
      exact Mk.back_out ok hn
theorem back_rows (L : List Rw) (id : Int) : ∃ J : List Rw, toB J = (backB (toB L) id).1 := by
  cases ok : okBk (toB L) with
  | false => exact ⟨[], by rw [Mk.back_no ok]; rfl⟩
  | true =>
    by_cases hid : 0 ≤ id ∧ id ≤ 7
    · by_cases hk : ∃ k, k < L.length ∧ kat L k = id
      · obtain ⟨k, hk, e⟩ := hk
        by_cases ht : (rat L k).2.1 = 1000000
        · exact ⟨L, by rw [Mk.back_max ok hid (look_hit ok hk e) ht]⟩
        · exact ⟨_, by rw [Mk.back_up ok hid (look_hit ok hk e) ht]; exact map_up ok hk e⟩
      · have hm : Mk.look (toB L) id = none := look_miss (fun j hj q => hk ⟨j, hj, q⟩)
        have o1 : okBk (toB [(id, 0, 0)]) = true := Mk.ok_mk (by simp) (fun e he => by
          simp only [toB, List.map_cons, List.map_nil, List.mem_singleton] at he
          subst he
          exact Mk.upE_ok (t := 0) hid ⟨by decide, by decide⟩) (List.pairwise_singleton _ _)
        obtain ⟨J, hJ⟩ := merged_rows L [(id, 0, 0)]
        have j := Mk.merge_is ok o1
        rw [← hJ] at j
        exact ⟨J, by rw [Mk.back_new ok hid hm j]⟩
    · exact ⟨L, by rw [Mk.back_out ok hid]⟩
theorem back_short (A : List Mk.En) (id : Int) : (backB A id).1.length ≤ 9 := by
  unfold backB
  split
  · rename_i ok
    have := Mk.ok_len ok
    split
    · split
      · split
        · simp only; omega
        · simp only [List.length_map]; omega
      · have := Mk.merge_length A [upE id 0]
        simp only [List.length_singleton] at this ⊢
        omega
    · simp only; omega
  · simp
theorem ent_pb : Enters Try.prog 27 := enters_of Try.func27 (by kernel_rfl) rfl
theorem back_q (x : Rw) (h : okE (toE x) = true) : Enters Try.prog (selS (fun _ _ h => h) x.2.2) ∧ ∀ W, Calls Try.prog (selS (fun _ _ h => h) x.2.2) #[rv x] W fun e w' => e = .returned (.tuple #[rv (revN x), .bool (revB x)]) ∧ Below W.heap.size W w' := by
  obtain ⟨ht, hs⟩ := st_of h
  have e : selS (fun _ _ h => h) x.2.2 = 39 := by
    rcases hs with hs | hs | hs
    · rw [hs]; rfl
    · rw [hs]; rfl
    · rw [hs]; rfl
  rw [e]
  exact ⟨ent_revive, fun W => impl_revive x W ht⟩
/-- What Back comes to. -/
def BkP (L : List Rw) (id : Int) (w : World) (e : Ending) (w' : World) : Prop := ∃ v J b, e = .returned (.tuple #[v, .bool b]) ∧ backB (toB L) id = (toB J, b) ∧ Own w' w.heap.size v J ∧ Below w.heap.size w w'
theorem BkP.of {L J : List Rw} {id : Int} {w w' : World} {e : Ending} {v : Value} {b : Bool} (h : e = .returned (.tuple #[v, .bool b])) (h1 : backB (toB L) id = (toB J, b)) (h2 : Own w' w.heap.size v J) (h3 : Below w.heap.size w w') : BkP L id w e w' := ⟨v, J, b, h, h1, h2, h3⟩
set_option maxRecDepth 100000 in
set_option maxHeartbeats 4000000 in
theorem impl_Back_any (a : Option Addr) (cap : Nat) (L : List Rw) (id : Int) (w : World) (h : Rd w a L) (hna : a = none → cap = 0) (hl : L.length ≤ 9223372036854775807) :
    Calls Try.prog 13 #[.slice a L.length cap, .int .i64 id] w fun e w' => BkP L id w e w' := by
  have CO := hidIt (fun W (r : Rd W a L) => impl_MembersOk a cap L W r hl)
  have CI := hidIt (fun W => impl_memberIdOk id W)
  have CG := hidIt (fun W (r : Rd W a L) => impl_changed 27 (fun _ _ h => h) revN revB ent_pb pick_back back_q a cap L id W r hna hl)
  have HR := hidIt h
  clear h
  cases ok : okBk (toB L) with
  | false =>
    rw [ok] at CO
    have HC := hidIt (show backB (toB L) id = (toB [], false) from Mk.back_no ok)
    clear ok
    generalize L.length = m at *
    go_enter Try.func13, Try.ntmps13
    go_wp2_with (fail)
    refine (CO.out _ HR.out).mono ?_
    rintro e w1 ⟨rfl, k1⟩
    have HB1 := hidIt k1
    clear k1
    go_wp2_with (fail)
    refine bodyPost_ret (v := .tuple #[.slice (some ⟨w1.heap.size, 0, none⟩) 0 0, .bool false]) (by simp [results, Try.results13, go_sem]) rfl ?_
    exact BkP.of rfl HC.out ((Own.new w1).mono HB1.out.size) (HB1.out.alloc HB1.out.size _)
  | true =>
    rw [ok] at CO
    have l8 := Mk.ok_len ok
    rw [List.length_map] at l8
    have HRi := hidIt (Mk.ok_ris ok)
    have CC := hidIt (fun W (r : Rd W a L) => impl_copied a cap L W r hna (by omega))
    have CP := hidIt (fun W (r : Rd W a L) => impl_placeOf a cap L id W r (by omega) HRi.out)
    have HBC := hidIt (fun M b (h : ChR L id revN revB M b) hw => back_ch h hw)
    have HBN := hidIt (fun k (h : At L id k false) (hid : 0 ≤ id ∧ id ≤ 7) => back_put ok h hid)
    clear ok
    generalize hn : L.length = m at *
    have HN := hidIt hn
    clear hn
    obtain ⟨ki, eki⟩ : ∃ ki, inB id 0 7 = ki := ⟨_, rfl⟩
    have HKI : Hid ((0 ≤ id ∧ id ≤ 7) ↔ ki = true) := hidIt (by rw [← eki]; unfold inB; simp)
    rw [eki] at CI
    clear eki
    go_enter Try.func13, Try.ntmps13
    go_wp2_with (fail)
    refine (CO.out _ HR.out).mono ?_
    rintro e w1 ⟨rfl, k1⟩
    have HB1 := hidIt k1
    clear k1
    go_wp2_with (fail)
    refine (CP.out _ (HR.out.kept HB1.out)).mono ?_
    intro e w2 hz
    obtain ⟨k, is, rfl, hk, k2⟩ := hz.out
    have HB2 := hidIt (HB1.out.trans (k2.mono HB1.out.size))
    have HK := hidIt hk
    clear hk k2 hz CP CO HB1
    cases is with
    | true =>
      have HW := hidIt (fun M b (h : ChR L id revN revB M b) => HBC.out M b h (.inl ⟨k, by rw [← HN.out]; exact (HK.out.yes rfl).1, (HK.out.yes rfl).2⟩))
      clear HBC HBN
      go_wp2_with (fail)
      refine (CG.out _ (HR.out.kept HB2.out)).mono ?_
      intro e w3 hz
      obtain ⟨v, M, b, rfl, hr, o3, k3⟩ := hz.out
      have HB3 := hidIt (HB2.out.trans (k3.mono HB2.out.size))
      have HO3 := hidIt (o3.mono HB2.out.size)
      have HE := hidIt (HW.out M b hr)
      clear o3 k3 hz hr
      obtain ⟨za, zc, ez, _⟩ := HO3.out.form
      subst ez
      go_wp2_with (fail)
      refine bodyPost_ret (v := .tuple #[.slice za M.length zc, .bool b]) (by simp [results, Try.results13, go_sem]) rfl ?_
      exact BkP.of rfl HE.out HO3.out HB3.out
    | false =>
      cases ki with
      | false =>
        have HW := hidIt (fun M b (h : ChR L id revN revB M b) => HBC.out M b h (.inr ⟨fun q => absurd (HKI.out.1 q) (by decide), fun j hj => HK.out.none HRi.out j (by rw [HN.out]; exact hj)⟩))
        clear HBC HBN
        go_wp2_with (fail)
        refine (CI.out _).mono ?_
        rintro e w2' ⟨rfl, ew⟩
        rw [ew]
        clear ew
        go_wp2_with (fail)
        refine (CG.out _ (HR.out.kept HB2.out)).mono ?_
        intro e w3 hz
        obtain ⟨v, M, b, rfl, hr, o3, k3⟩ := hz.out
        have HB3 := hidIt (HB2.out.trans (k3.mono HB2.out.size))
        have HO3 := hidIt (o3.mono HB2.out.size)
        have HE := hidIt (HW.out M b hr)
        clear o3 k3 hz hr
        obtain ⟨za, zc, ez, _⟩ := HO3.out.form
        subst ez
        go_wp2_with (fail)
        refine bodyPost_ret (v := .tuple #[.slice za M.length zc, .bool b]) (by simp [results, Try.results13, go_sem]) rfl ?_
        exact BkP.of rfl HE.out HO3.out HB3.out
      | true =>
        have HE := hidIt (HBN.out k HK.out (HKI.out.2 rfl))
        have hkm : k ≤ m := by rw [← HN.out]; exact HK.out.le
        clear HBC HBN
        go_wp2_with (fail)
        refine (CI.out _).mono ?_
        rintro e w2' ⟨rfl, ew⟩
        rw [ew]
        clear ew
        go_wp2_with (fail)
        refine (CC.out _ (HR.out.kept HB2.out)).mono ?_
        intro e w3 hz
        obtain ⟨g, cp, rfl, hmc, hcm, o3, k3⟩ := hz.out
        have HB3 := hidIt (HB2.out.trans (k3.mono HB2.out.size))
        have HO3 := hidIt (o3.mono HB2.out.size)
        clear o3 k3 hz
        have CN := hidIt (insert_any w.heap.size (.slice (some ⟨g, 0, none⟩) m cp) L k (id, 0, 0) w3 HO3.out (by rw [HN.out]; exact hkm) (by rw [HN.out]; omega) HB3.out.size)
        go_wp2_with (fail)
        refine CN.out.mono ?_
        rintro e w4 ⟨v, rfl, o4, k4⟩
        have HO4 := hidIt o4
        have HB4 := hidIt ((HB3.out.alloc HB3.out.size (.cells #[.int .i64 id, .int .i64 0, .int .i64 0] 33)).trans (grown_below (HO3.out.alloc (.cells #[.int .i64 id, .int .i64 0, .int .i64 0] 33)) k4 (Nat.le_refl _) (by have := HB3.out.size; simp; omega)))
        clear o4 k4 CN
        obtain ⟨za, zc, ez, _⟩ := HO4.out.form
        subst ez
        go_wp2_with (fail)
        refine bodyPost_ret (v := .tuple #[.slice za (L.take k ++ (id, 0, 0) :: L.drop k).length zc, .bool true]) (by simp [results, Try.results13, go_sem]) rfl ?_
        exact BkP.of rfl HE.out HO4.out HB4.out
theorem impl_Back (a : Option Addr) (cap : Nat) (L : List Rw) (id : Int) (w : World) (h : Rd w a L) (hna : a = none → cap = 0) (hl : L.length ≤ 9223372036854775807) :
    Calls Try.prog 13 #[.slice a L.length cap, .int .i64 id] w fun e w' => ∃ v J, e = .returned (.tuple #[v, .bool (backB (toB L) id).2]) ∧ toB J = (backB (toB L) id).1 ∧ Own w' w.heap.size v J ∧ Below w.heap.size w w' :=
  (impl_Back_any a cap L id w h hna hl).mono (by
    rintro e w' ⟨v, J, b, rfl, hb, o, k⟩
    rw [hb]
    exact ⟨v, J, rfl, rfl, o, k⟩)
end Go.Proofs.Ytlcbapijpdlolab.Mm
