/-
  Times of a spot: doubling by a closure, adding; n times the point.
-/
import Derived.Test.YtllajhieocploaaGreatDoorCurveU
import Derived.ChangeKeysEq
namespace Go.Proofs.YtllajhieocploaaGreatDoor.Cv
open Go.ChangeShapes Go.WideShapes Go.ChangeAt Go.RowKit
open Cu
theorem und_spot : Tryz.prog.underlying 194 = some (.array 2 192) := by kernel_rfl
theorem und_element : Tryz.prog.underlying 192 = some (.int .i64) := by kernel_rfl
theorem info_element : ∃ i, Tryz.prog.info? 192 = some i := ⟨(Tryz.prog.info? 192).get (by decide +kernel), by simp⟩
theorem cells_element : Tryz.prog.cellsOf 192 = 1 := by kernel_rfl
/-- Two spots held against one another. -/
theorem run_eq2 (w : World) (a b c d : Int) : (Op.equalIn 10000 194 (.agg #[.int .i64 a, .int .i64 b]) (.agg #[.int .i64 c, .int .i64 d])).run Tryz.prog w = .ok (a == c && b == d) w := by
  obtain ⟨i, hi⟩ := info_element
  rw [show (10000 : Nat) = 9999 + 1 from rfl, run_equalIn_array w 9999 _ _ und_spot hi, cells_element]
  rw [show List.range 2 = [0, 1] from rfl]
  simp only [Op.eqItems]
  simp [part, isAgg, go_sem, run_underlying und_element]
  by_cases h1 : a = c
  · by_cases h2 : b = d <;> simp [h1, h2]
  · simp [h1]
attribute [local go_sem] run_eq2
set_option maxHeartbeats 4000000 in
theorem times_any (a b n : Nat) (w : World) (h : okN (a, b) = true) (hn : n ≤ 1099511627776) :
    Calls Tryz.prog 138 #[.agg #[.int .i64 a, .int .i64 b], .int .i64 n] w fun e w' => e = .returned (.agg #[.int .i64 (ns (a, b) n).1, .int .i64 (ns (a, b) n).2]) ∧ Below w.heap.size w w' := by
  have HK : Hid (okN (a, b) = true) := h
  clear h
  go_enter Tryz.func138, Tryz.ntmps138
  go_upto_region 2 with fail
  go_cut [6, 7] from 9 to 28 (fun s6 s7 wx => ∃ cb tb : Nat, s6 = .pointer (some ⟨tb, 0, none⟩) ∧ s7 = .func (.func 161) #[] #[.pointer (some ⟨cb, 0, none⟩)] ∧ Start w wx (a, b) cb tb)
  case first =>
    go_region_with (go_at_call 148; go_in)
    all_goals
      go_wp2_with fail
      go_meet
      refine ⟨_, _, rfl, rfl, ?_⟩
      first
        | with_reducible exact start1.drew
        | with_reducible exact start2.drew
  case rest =>
    obtain ⟨cb, tb, rfl, rfl, hS⟩ := hcut
    have hca := hS.ca
    have hcr := hS.cr
    have hne := hS.ne
    have HS := Hid.mk' hS
    clear hS
    go_wp2
    go_loopw [1] (fun y wx => ∃ m d0 d1 r0 r1 : Nat, y = .int .i64 m ∧ m ≤ 1099511627776 ∧ Lp w wx (a, b) n cb tb m (d0, d1) (r0, r1)) (fun y _ => (intOf y).toNat)
    case atStart => exact ⟨n, a, b, 0, 1, rfl, hn, HS.out.a, HS.out.r, HS.out.res, HS.out.non, HS.out.old, HK.out, ok_nought, nought_ad (ok_el (ns_ok HK.out n))⟩
    case round =>
      obtain ⟨m, d0, d1, r0, r1, rfl, hm, hL⟩ := hrel
      have HL := Hid.mk' hL
      have e0 := hL.a.lt
      have e1 := hL.su.lt
      have e2 := hL.res.lt
      have e3 := hL.non.lt
      clear hL
      by_cases hz : 0 < m
      · go_wp2_with (fail)
        refine (twice_any cb (d0, d1) _ HL.out.a (ok_el HL.out.okd)).mono ?_
        rintro e w1 ⟨rfl, ht, ho⟩
        have HT := Hid.mk' ht
        have HO := Hid.mk' ho
        have q := HL.out.su.only ho (by omega)
        have x0 := q.c0
        have x1 := q.c1
        have x2 := q.f0
        have x3 := q.f1
        have x4 := q.lt
        have q := HL.out.non.only ho (by omega)
        have y0 := q.c0
        have y1 := q.c1
        have y4 := q.lt
        have q := HL.out.res.only ho (by omega)
        have HQ := Hid.mk' q
        have v0 := q.c0
        have v1 := q.c1
        have v2 := q.f0
        have v3 := q.f1
        have v4 := q.lt
        dsimp only at x0 x1 y0 y1 v0 v1
        clear q
        have HB := Hid.mk' (HL.out.old.trans (ho.below (B := w.heap.size) (by omega) (by omega)))
        clear ht ho
        by_cases hd : d0 = 0 ∧ d1 = 1
        · obtain ⟨rfl, rfl⟩ := hd
          have er : Hid (ns (a, b) n = (r0, r1)) := Hid.mk' (by rw [← HL.out.eq, ns_nought]; exact ad_nought (ok_el HL.out.okr))
          go_wp2_with (fail)
          refine bodyPost_ret (v := .agg #[.int .i64 r0, .int .i64 r1]) ?_ rfl ⟨by rw [er.out], ?_⟩
          · have t3 := (HQ.out.put (q := (r0, r1))).alloc (.cells #[.int .i64 0, .int .i64 1] 194)
            dsimp only at t3
            refine ret_via t3 (fun w2 k => ?_)
            have k0 := k.c0
            have k1 := k.c1
            dsimp only at k0 k1
            clear t3 k x0 x1 x2 x3 y0 y1 v0 v1 v2 v3
            simp [results, Tryz.results138, go_sem, k0, k1]
          · exact ((HB.out.setCell (by simp) _).setCell (by simp) _).alloc (by simp; omega) _
        · have hd' : ((d0 : Int) == 0 && (d1 : Int) == 1) = false := by
            simp; omega
          clear hd
          by_cases ho : m % 2 = 1
          · have hp : ((m : Int) % 2 == 1) = true := by simp; omega
            go_wp2_with (fail)
            refine (plus_any r0 r1 d0 d1 _ (ok_el HL.out.okr).1 (ok_el HL.out.okr).2 (ok_el HL.out.okd).1 (ok_el HL.out.okd).2).mono ?_
            rintro e w2 ⟨rfl, hb⟩
            have hk := Hid.mk' hb
            obtain ⟨hc, hf⟩ := bcell hb
            have hz1 : tb < w2.heap.size := by have := hb.size; simp at this; omega
            have hz2 : tb < w1.heap.size + 1 := by omega
            clear hb
            go_wp2_with (fail)
            refine ⟨⟨m / 2, (adN (d0, d1) (d0, d1)).1, (adN (d0, d1) (d0, d1)).2, (adN (r0, r1) (d0, d1)).1, (adN (r0, r1) (d0, d1)).2, by simp, by omega, ?_⟩, by simp [intOf]; omega⟩
            have e5 := HT.out.lt
            have t1 := (((HT.out.alloc _).kept hk.out (by simp; omega)).far (i := 0) (v := .int .i64 (adN (r0, r1) (d0, d1)).1) hne).far (i := 1) (v := .int .i64 (adN (r0, r1) (d0, d1)).2) hne
            have t2 := (((HL.out.su.only HO.out (by omega)).alloc _).kept hk.out (by simp; omega)).put (q := adN (r0, r1) (d0, d1))
            have t3 := (((HQ.out.alloc _).kept hk.out (by simp; omega)).far (c := tb) (i := 0) (v := .int .i64 (adN (r0, r1) (d0, d1)).1) (by omega)).far (c := tb) (i := 1) (v := .int .i64 (adN (r0, r1) (d0, d1)).2) (by omega)
            have t4 := ((((HL.out.non.only HO.out (by omega)).alloc _).kept hk.out (by simp; omega)).far (c := tb) (i := 0) (v := .int .i64 (adN (r0, r1) (d0, d1)).1) (by omega)).far (c := tb) (i := 1) (v := .int .i64 (adN (r0, r1) (d0, d1)).2) (by omega)
            exact ⟨t1, t2, t3, t4, (((HB.out.alloc (by omega) _).trans (hk.out.mono (B' := w.heap.size) (by simp; omega))).setCell (by simp; omega) _).setCell (by simp; omega) _, ad_ok HL.out.okd HL.out.okd, ad_ok HL.out.okr HL.out.okd, (ns_odd HL.out.okr HL.out.okd m ho).trans HL.out.eq⟩
          · have hp : ((m : Int) % 2 == 1) = false := by simp; omega
            go_wp2_with (fail)
            refine ⟨⟨m / 2, (adN (d0, d1) (d0, d1)).1, (adN (d0, d1) (d0, d1)).2, r0, r1, by simp, by omega, ?_⟩, by simp [intOf]; omega⟩
            exact ⟨HT.out.alloc _, (HL.out.su.only HO.out (by omega)).alloc _, HQ.out.alloc _, (HL.out.non.only HO.out (by omega)).alloc _, HB.out.alloc (by omega) _, ad_ok HL.out.okd HL.out.okd, HL.out.okr, (ns_even HL.out.okd m (by omega)).trans HL.out.eq⟩
      · have q := HL.out.su
        have x0 := q.c0
        have x1 := q.c1
        have q := HL.out.res
        have v0 := q.c0
        have v1 := q.c1
        have v2 := q.f0
        have v3 := q.f1
        dsimp only at x0 x1 v0 v1
        clear q
        have hm0 : m = 0 := by omega
        have er : Hid (ns (a, b) n = (r0, r1)) := Hid.mk' (by rw [← HL.out.eq, hm0]; exact ad_nought (ok_el HL.out.okr))
        clear hm0
        go_wp2_with (fail)
        refine bodyPost_ret (v := .agg #[.int .i64 r0, .int .i64 r1]) ?_ rfl ⟨by rw [er.out], ?_⟩
        · have t3 := HL.out.res.put (q := (r0, r1))
          dsimp only at t3
          refine ret_via t3 (fun w2 k => ?_)
          have k0 := k.c0
          have k1 := k.c1
          dsimp only at k0 k1
          clear t3 k x0 x1 v0 v1 v2 v3
          simp [results, Tryz.results138, go_sem, k0, k1]
        · exact (HL.out.old.setCell (by simp) _).setCell (by simp) _
end Go.Proofs.YtllajhieocploaaGreatDoor.Cv
