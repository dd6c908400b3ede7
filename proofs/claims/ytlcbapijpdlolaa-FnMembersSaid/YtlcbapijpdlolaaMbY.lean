/-
  What the program's side of chapter 12 must give (ImplM), and FnBackUp out of it. (Written by wip/mkBack.py.)
-/
import Derived.Test.YtlcbapijpdlolaaMbX
import Derived.Test.YtlcbapijpdlolaaMbG
import Derived.Test.YtlcbapijpdlolaaMbD
import Derived.Deep.LoopGhost
namespace Go.Proofs.Ytlcbapijpdlolaa.Mm
open Go.ChangeShapes Go.WideShapes Go.ChangeAt Go.RowKit
open Go.Proofs.Ytlcbapijpdlolaa.Mk (okE newB okBk look Ris IsJoin mergeB backB upE)
set_option linter.unusedVariables false
theorem code_at {w wi : World} {a : Option Addr} {len : Nat} (h : Dr.Code w.heap.size w a len) (k : Below w.heap.size w wi) : Dr.Code wi.heap.size wi a len :=
  ⟨fun i hi => by
    obtain ⟨b, off, x, ea, hb, hc, r⟩ := h.cell i hi
    exact ⟨b, off, x, ea, Nat.lt_of_lt_of_le hb k.size, by rw [k.cell (by simpa using hb)]; exact hc, r⟩⟩
theorem on {W a b : World} (h : Below W.heap.size W a) (k : Below a.heap.size a b) : Below W.heap.size W b := h.trans (k.mono h.size)
set_option maxHeartbeats 2000000 in
theorem big_any (a : Option Addr) (len cap : Nat) (w : World) : Calls Try.prog 9 #[.slice a len cap] w fun e w' => e = .returned (.bool (decide (4096 < (len : Int)))) ∧ w' = w := by
  go_enter Try.func9, Try.ntmps9
  go_wp2
  go_ret
  exact ⟨rfl, rfl⟩
theorem turn_len (L : List Rw) (id st : Int) : (turnR L id st).1.length ≤ L.length := by
  unfold turnR
  split
  · simp
  · simp
theorem back_len (A : List Mk.En) (id : Int) : (backB A id).1.length ≤ A.length + 1 := by
  unfold backB
  split
  · split
    · split
      · split
        · simp
        · simp
      · have := Mk.merge_length A [upE id 0]
        simpa using this
    · simp
  · simp
structure ImplM : Prop where
  ok : ∀ (a : Option Addr) (cap : Nat) (L : List Rw) (w : World) (h : Rd w a L) (hl : L.length ≤ 9223372036854775807), Calls Try.prog 17 #[.slice a L.length cap] w fun e w' => e = .returned (.bool (okBk (toB L))) ∧ Below w.heap.size w w'
  str : ∀ (x y : Rw) (w : World), Calls Try.prog 15 #[rv x, rv y] w fun e w' => e = .returned (.bool (newB (toE x) (toE y))) ∧ Below w.heap.size w w'
  mrg : ∀ (aA aB : Option Addr) (cA cB : Nat) (A B : List Rw) (w : World) (hA : Rd w aA A) (hB : Rd w aB B) (hnA : aA = none → cA = 0) (hnB : aB = none → cB = 0) (hlA : A.length ≤ 9223372036854775807) (hlB : B.length ≤ 9223372036854775807), Calls Try.prog 11 #[.slice aA A.length cA, .slice aB B.length cB] w fun e w' => ∃ v J, e = .returned v ∧ toB J = mergeB (toB A) (toB B) ∧ Own w' w.heap.size v J ∧ Below w.heap.size w w'
  dbt : ∀ (a : Option Addr) (cap : Nat) (L : List Rw) (id : Int) (w : World) (h : Rd w a L) (hna : a = none → cap = 0) (hl : L.length ≤ 9223372036854775807), Calls Try.prog 22 #[.slice a L.length cap, .int .i64 id] w fun e w' => ∃ v, e = .returned (.tuple #[v, .bool (turnR L id 0).2]) ∧ Own w' w.heap.size v (turnR L id 0).1 ∧ Below w.heap.size w w'
  drp : ∀ (a : Option Addr) (cap : Nat) (L : List Rw) (id : Int) (w : World) (h : Rd w a L) (hna : a = none → cap = 0) (hl : L.length ≤ 9223372036854775807), Calls Try.prog 23 #[.slice a L.length cap, .int .i64 id] w fun e w' => ∃ v, e = .returned (.tuple #[v, .bool (turnR L id 1).2]) ∧ Own w' w.heap.size v (turnR L id 1).1 ∧ Below w.heap.size w w'
  bck : ∀ (a : Option Addr) (cap : Nat) (L : List Rw) (id : Int) (w : World) (h : Rd w a L) (hna : a = none → cap = 0) (hl : L.length ≤ 9223372036854775807), Calls Try.prog 21 #[.slice a L.length cap, .int .i64 id] w fun e w' => ∃ v J, e = .returned (.tuple #[v, .bool (backB (toB L) id).2]) ∧ toB J = (backB (toB L) id).1 ∧ Own w' w.heap.size v J ∧ Below w.heap.size w w'
set_option maxRecDepth 100000 in
set_option maxHeartbeats 4000000 in
theorem FnBackUp_any (HI : ImplM) (a0 : Option Addr) (len0 cap0 : Nat) (w : World) (hc : Dr.Code w.heap.size w a0 len0) :
    Calls Try.prog 4 #[.slice a0 len0 cap0] w fun e w' => e = .returned (.bool true) ∧ Below w.heap.size w w' := by
  have HC := hidIt hc
  clear hc
  have cbig := big_any a0 len0 cap0
  by_cases hbig : 4096 < len0
  · rw [decide_eq_true (show (4096 : Int) < (len0 : Int) by omega)] at cbig
    have CBig := hidIt cbig
    clear cbig
    go_enter Try.func4, Try.ntmps4
    go_wp2_with (fail)
    refine (CBig.out _).mono ?_
    rintro e w1 ⟨rfl, hz⟩
    rw [hz]
    clear hz
    go_wp2_with (fail)
    go_ret
    exact ⟨rfl, Below.refl _ _⟩
  have hl : len0 ≤ 4096 := by omega
  rw [decide_eq_false (show ¬ (4096 : Int) < (len0 : Int) by omega)] at cbig
  have CBig := hidIt cbig
  clear cbig hbig
  have HB := hidIt (Below.refl w.heap.size w)
  go_enter Try.func4, Try.ntmps4
  go_wp2_with (fail)
  refine (CBig.out _).mono ?_
  rintro e w1 ⟨rfl, hz⟩
  rw [hz]
  clear hz CBig
  go_wp2_with (fail)
  refine (DrawBack_any a0 len0 cap0 _ HC.out hl).mono ?_
  rintro e w2 ⟨vl, L, id, rfl, l4, ol, kk⟩
  replace HB := hidIt (on HB.out kk)
  clear kk HC
  obtain ⟨a_l, c_l, ev, le_l, cm_l, rr, na_l, _⟩ := ol.form
  subst ev
  have R_l := hidIt rr
  clear rr
  clear ol
  have FT := hidIt (turn_two L id)
  have FN := hidIt (fun h => turn_then (L := L) (id := id) h)
  have CBi := hidIt (fun W (r : Rd W a_l L) => HI.bck a_l c_l L id W r na_l (by omega))
  have CBs := hidIt (fun W (r : Rd W a_l L) => spec_Back a_l c_l L id W r na_l (by omega))
  have CDi := hidIt (fun W (r : Rd W a_l L) => HI.dbt a_l c_l L id W r na_l (by omega))
  have CDs := hidIt (fun W (r : Rd W a_l L) => spec_Doubted a_l c_l L id W r na_l (by omega))
  have CPi := hidIt (fun W (r : Rd W a_l L) => HI.drp a_l c_l L id W r na_l (by omega))
  have CPs := hidIt (fun W (r : Rd W a_l L) => spec_Dropped a_l c_l L id W r na_l (by omega))
  have lD := turn_len L id 0
  have lQ := turn_len L id 1
  have lB := back_len (toB L) id
  have FB := hidIt (fun B M => back_of (L := L) (B := B) (M := M) (id := id))
  generalize turnR L id 0 = td at FT FN CDi CDs lD
  generalize turnR L id 1 = tp at FT CPi CPs lQ
  generalize backB (toB L) id = tb at CBi CBs FB lB
  obtain ⟨D, dt⟩ := td
  obtain ⟨Q, dr⟩ := tp
  obtain ⟨TB, is⟩ := tb
  dsimp only at FT FN CDi CDs CPi CPs CBi CBs FB lD lQ lB
  rw [toB_length] at lB
  have h1 : (is != is) = false := by cases is <;> rfl
  have h2 : (dt != dt) = false := by cases dt <;> rfl
  have h3 : (dr != dr) = false := by cases dr <;> rfl
  generalize hln : L.length = n at *
  have HLN := hidIt hln
  clear hln
  go_wp2_with (fail)
  refine (CBi.out _ R_l.out).mono ?_
  rintro e w3 ⟨vb, B, rfl, hB, ob, kk⟩
  replace HB := hidIt (on HB.out kk)
  replace R_l := hidIt (R_l.out.kept kk)
  clear kk
  obtain ⟨a_b, c_b, ev, le_b, cm_b, rr, na_b, _⟩ := ob.form
  subst ev
  have R_b := hidIt rr
  clear rr
  clear ob
  have lb : B.length ≤ 9223372036854775806 := by rw [← hB, toB_length] at lB; omega
  have CLb := hidIt (fun W a a' c c' (r : Rd W a B) (r' : Rd W a' B) => likeMembers_same a a' c c' B W r r' lb)
  have COb := hidIt (fun W (r : Rd W a_b B) => HI.ok a_b c_b B W r (by omega))
  have CMb := hidIt (fun W (r : Rd W a_b B) (r' : Rd W a_l L) => HI.mrg a_b a_l c_b c_l B L W r r' na_b na_l (by omega) (by rw [HLN.out]; omega))
  rw [HLN.out] at CMb
  have HBq := hidIt hB
  clear hB
  generalize hbn : B.length = nb at *
  have HBN := hidIt hbn
  clear hbn
  go_wp2_with (fail)
  refine (CDi.out _ R_l.out).mono ?_
  rintro e w4 ⟨vd, rfl, od, kk⟩
  replace HB := hidIt (on HB.out kk)
  replace R_l := hidIt (R_l.out.kept kk)
  replace R_b := hidIt (R_b.out.kept kk)
  clear kk
  obtain ⟨a_d, c_d, ev, le_d, cm_d, rr, na_d, _⟩ := od.form
  subst ev
  have R_d := hidIt rr
  clear rr
  clear od
  have ld : D.length ≤ 9223372036854775806 := by omega
  have CLd := hidIt (fun W a a' c c' (r : Rd W a D) (r' : Rd W a' D) => likeMembers_same a a' c c' D W r r' ld)
  have C2d := hidIt (fun W (r : Rd W a_d D) => HI.dbt a_d c_d D id W r na_d (by omega))
  have C3d := hidIt (fun W (r : Rd W a_d D) => HI.drp a_d c_d D id W r na_d (by omega))
  generalize hdn : D.length = nd at *
  have HDN := hidIt hdn
  clear hdn
  go_wp2_with (fail)
  refine (CPi.out _ R_l.out).mono ?_
  rintro e w5 ⟨vp, rfl, op, kk⟩
  replace HB := hidIt (on HB.out kk)
  replace R_l := hidIt (R_l.out.kept kk)
  replace R_b := hidIt (R_b.out.kept kk)
  replace R_d := hidIt (R_d.out.kept kk)
  clear kk
  obtain ⟨a_p, c_p, ev, le_p, cm_p, rr, na_p, _⟩ := op.form
  subst ev
  have R_p := hidIt rr
  clear rr
  clear op
  have lq : Q.length ≤ 9223372036854775806 := by omega
  have CLp := hidIt (fun W a a' c c' (r : Rd W a Q) (r' : Rd W a' Q) => likeMembers_same a a' c c' Q W r r' lq)
  generalize hqn : Q.length = nq at *
  have HQN := hidIt hqn
  clear hqn
  go_wp2_with (fail)
  refine (CBs.out _ R_l.out).mono ?_
  rintro e w6 ⟨vx, B2, rfl, hB2, ox, kk⟩
  replace HB := hidIt (on HB.out kk)
  replace R_l := hidIt (R_l.out.kept kk)
  replace R_b := hidIt (R_b.out.kept kk)
  replace R_d := hidIt (R_d.out.kept kk)
  replace R_p := hidIt (R_p.out.kept kk)
  clear kk
  have eB := toB_inj (HBq.out.trans hB2.symm)
  subst eB
  clear hB2
  obtain ⟨a_x, c_x, ev, le_x, cm_x, rr⟩ := ox.formN HBN.out
  subst ev
  have R_x := hidIt rr
  clear rr ox
  go_wp2_with (fail)
  refine (CLb.out _ a_b a_x c_b c_x R_b.out R_x.out).mono ?_
  rintro e w7 ⟨rfl, kk⟩
  replace HB := hidIt (on HB.out kk)
  replace R_l := hidIt (R_l.out.kept kk)
  replace R_b := hidIt (R_b.out.kept kk)
  replace R_d := hidIt (R_d.out.kept kk)
  replace R_p := hidIt (R_p.out.kept kk)
  replace R_x := hidIt (R_x.out.kept kk)
  clear kk
  clear R_x
  go_wp2_with (fail)
  refine (CDs.out _ R_l.out).mono ?_
  rintro e w8 ⟨vy, rfl, oy, kk⟩
  replace HB := hidIt (on HB.out kk)
  replace R_l := hidIt (R_l.out.kept kk)
  replace R_b := hidIt (R_b.out.kept kk)
  replace R_d := hidIt (R_d.out.kept kk)
  replace R_p := hidIt (R_p.out.kept kk)
  clear kk
  obtain ⟨a_y, c_y, ev, le_y, cm_y, rr⟩ := oy.formN HDN.out
  subst ev
  have R_y := hidIt rr
  clear rr oy
  go_wp2_with (fail)
  refine (CLd.out _ a_d a_y c_d c_y R_d.out R_y.out).mono ?_
  rintro e w9 ⟨rfl, kk⟩
  replace HB := hidIt (on HB.out kk)
  replace R_l := hidIt (R_l.out.kept kk)
  replace R_b := hidIt (R_b.out.kept kk)
  replace R_d := hidIt (R_d.out.kept kk)
  replace R_p := hidIt (R_p.out.kept kk)
  replace R_y := hidIt (R_y.out.kept kk)
  clear kk
  clear R_y
  go_wp2_with (fail)
  refine (CPs.out _ R_l.out).mono ?_
  rintro e w10 ⟨vz, rfl, oz, kk⟩
  replace HB := hidIt (on HB.out kk)
  replace R_l := hidIt (R_l.out.kept kk)
  replace R_b := hidIt (R_b.out.kept kk)
  replace R_d := hidIt (R_d.out.kept kk)
  replace R_p := hidIt (R_p.out.kept kk)
  clear kk
  obtain ⟨a_z, c_z, ev, le_z, cm_z, rr⟩ := oz.formN HQN.out
  subst ev
  have R_z := hidIt rr
  clear rr oz
  go_wp2_with (fail)
  refine (CLp.out _ a_p a_z c_p c_z R_p.out R_z.out).mono ?_
  rintro e w11 ⟨rfl, kk⟩
  replace HB := hidIt (on HB.out kk)
  replace R_l := hidIt (R_l.out.kept kk)
  replace R_b := hidIt (R_b.out.kept kk)
  replace R_d := hidIt (R_d.out.kept kk)
  replace R_p := hidIt (R_p.out.kept kk)
  replace R_z := hidIt (R_z.out.kept kk)
  clear kk
  clear R_z
  clear CBi CBs CDi CDs CPi CPs CLp CLd h1 h2 h3
  cases dt with
  | true =>
    have hdr : dr = false := by have := FT.out; cases dr with
      | true => cases this
      | false => rfl
    subst hdr
    obtain ⟨f1, f2⟩ := FN.out rfl
    rw [f1] at C2d
    rw [f2] at C3d
    clear f1 f2 FN FT
    go_wp2_with (fail)
    refine (C2d.out _ R_d.out).mono ?_
    rintro e w12 ⟨vs, rfl, os, kk⟩
    replace HB := hidIt (on HB.out kk)
    replace R_l := hidIt (R_l.out.kept kk)
    replace R_b := hidIt (R_b.out.kept kk)
    replace R_d := hidIt (R_d.out.kept kk)
    replace R_p := hidIt (R_p.out.kept kk)
    clear kk
    obtain ⟨a_s, c_s, ev, _⟩ := os.form
    subst ev
    clear os
    go_wp2_with (fail)
    refine (C3d.out _ R_d.out).mono ?_
    rintro e w13 ⟨vt, rfl, ot, kk⟩
    replace HB := hidIt (on HB.out kk)
    replace R_l := hidIt (R_l.out.kept kk)
    replace R_b := hidIt (R_b.out.kept kk)
    replace R_d := hidIt (R_d.out.kept kk)
    replace R_p := hidIt (R_p.out.kept kk)
    clear kk
    obtain ⟨a_t, c_t, ev, _⟩ := ot.form
    subst ev
    clear ot C2d C3d
    cases is with
    | false =>
      go_wp2_with (fail)
      go_ret
      exact ⟨rfl, HB.out⟩
    | true =>
      go_wp2_with (fail)
      refine (CMb.out _ R_b.out R_l.out).mono ?_
      rintro e w14 ⟨vm, M, rfl, hM, om, kk⟩
      replace HB := hidIt (on HB.out kk)
      replace R_l := hidIt (R_l.out.kept kk)
      replace R_b := hidIt (R_b.out.kept kk)
      replace R_d := hidIt (R_d.out.kept kk)
      replace R_p := hidIt (R_p.out.kept kk)
      clear kk
      obtain ⟨okB, eM, hst⟩ := FB.out B M (by first | rfl | trivial) HBq.out hM
      subst eM
      obtain ⟨a_m, c_m, ev, le_m, cm_m, rr⟩ := om.formN HBN.out
      subst ev
      have R_m := hidIt rr
      clear rr om hM FB HBq CMb
      have HST := hidIt hst
      clear hst
      rw [okB] at COb
      clear okB
      go_wp2_with (fail)
      generalize hww : w14 = wK at *
      clear hww
      go_loopw [22] (fun y wx => ∃ i : Nat, y = .int .i64 i ∧ i ≤ nb ∧ Hid (Below wK.heap.size wK wx)) (fun y _ => (nb - intOf y).toNat)
      case atStart => exact ⟨0, rfl, by omega, hidIt (Below.refl _ _)⟩
      case round =>
        obtain ⟨i, rfl, hi, KX⟩ := hrel
        by_cases hin : i < nb
        · have hin' : (i : Int) < (nb : Int) := by omega
          have RA := hidIt (R_m.out.kept KX.out)
          have hmem := rat_mem (L := M) (i := i) (by rw [HBN.out]; exact hin)
          have hs := HST.out _ hmem
          obtain ⟨b1, o1, rfl, c0, c1, c2⟩ := RA.out.all (i := i) (by rw [HBN.out]; omega)
          generalize rat M i = x at c0 c1 c2 hs hmem
          obtain ⟨x0, x1, x2⟩ := x
          simp only at c0 c1 c2 hs
          clear hmem
          by_cases hid : x0 = id
          · have hx2 := hs hid
            subst hx2
            have e0 : (x0 == id) = true := by simp [hid]
            clear RA hs hid
            go_wp2_with (fail)
            exact ⟨⟨i + 1, by simp, by omega, KX⟩, by simp [intOf]; omega⟩
          · have e0 : (x0 == id) = false := by simp [hid]
            clear RA hs hid
            go_wp2_with (fail)
            exact ⟨⟨i + 1, by simp, by omega, KX⟩, by simp [intOf]; omega⟩
        · have hin' : ¬ (i : Int) < (nb : Int) := by omega
          go_wp2_with (fail)
          refine (COb.out _ (R_b.out.kept KX.out)).mono ?_
          rintro e wy ⟨rfl, ky⟩
          go_wp2_with (fail)
          refine (CLb.out _ a_m a_b c_m c_b ((R_m.out.kept KX.out).kept ky) ((R_b.out.kept KX.out).kept ky)).mono ?_
          rintro e wz ⟨rfl, kz⟩
          go_wp2_with (fail)
          go_ret
          exact ⟨rfl, on (on (on HB.out KX.out) ky) kz⟩
  | false =>
    clear FN FT C2d C3d
    cases dr with
    | true =>
      cases is with
      | false =>
        go_wp2_with (fail)
        go_ret
        exact ⟨rfl, HB.out⟩
      | true =>
        go_wp2_with (fail)
        refine (CMb.out _ R_b.out R_l.out).mono ?_
        rintro e w12 ⟨vm, M, rfl, hM, om, kk⟩
        replace HB := hidIt (on HB.out kk)
        replace R_l := hidIt (R_l.out.kept kk)
        replace R_b := hidIt (R_b.out.kept kk)
        replace R_d := hidIt (R_d.out.kept kk)
        replace R_p := hidIt (R_p.out.kept kk)
        clear kk
        obtain ⟨okB, eM, hst⟩ := FB.out B M (by first | rfl | trivial) HBq.out hM
        subst eM
        obtain ⟨a_m, c_m, ev, le_m, cm_m, rr⟩ := om.formN HBN.out
        subst ev
        have R_m := hidIt rr
        clear rr om hM FB HBq CMb
        have HST := hidIt hst
        clear hst
        rw [okB] at COb
        clear okB
        go_wp2_with (fail)
        generalize hww : w12 = wK at *
        clear hww
        go_loopw [22] (fun y wx => ∃ i : Nat, y = .int .i64 i ∧ i ≤ nb ∧ Hid (Below wK.heap.size wK wx)) (fun y _ => (nb - intOf y).toNat)
        case atStart => exact ⟨0, rfl, by omega, hidIt (Below.refl _ _)⟩
        case round =>
          obtain ⟨i, rfl, hi, KX⟩ := hrel
          by_cases hin : i < nb
          · have hin' : (i : Int) < (nb : Int) := by omega
            have RA := hidIt (R_m.out.kept KX.out)
            have hmem := rat_mem (L := M) (i := i) (by rw [HBN.out]; exact hin)
            have hs := HST.out _ hmem
            obtain ⟨b1, o1, rfl, c0, c1, c2⟩ := RA.out.all (i := i) (by rw [HBN.out]; omega)
            generalize rat M i = x at c0 c1 c2 hs hmem
            obtain ⟨x0, x1, x2⟩ := x
            simp only at c0 c1 c2 hs
            clear hmem
            by_cases hid : x0 = id
            · have hx2 := hs hid
              subst hx2
              have e0 : (x0 == id) = true := by simp [hid]
              clear RA hs hid
              go_wp2_with (fail)
              exact ⟨⟨i + 1, by simp, by omega, KX⟩, by simp [intOf]; omega⟩
            · have e0 : (x0 == id) = false := by simp [hid]
              clear RA hs hid
              go_wp2_with (fail)
              exact ⟨⟨i + 1, by simp, by omega, KX⟩, by simp [intOf]; omega⟩
          · have hin' : ¬ (i : Int) < (nb : Int) := by omega
            go_wp2_with (fail)
            refine (COb.out _ (R_b.out.kept KX.out)).mono ?_
            rintro e wy ⟨rfl, ky⟩
            go_wp2_with (fail)
            refine (CLb.out _ a_m a_b c_m c_b ((R_m.out.kept KX.out).kept ky) ((R_b.out.kept KX.out).kept ky)).mono ?_
            rintro e wz ⟨rfl, kz⟩
            go_wp2_with (fail)
            go_ret
            exact ⟨rfl, on (on (on HB.out KX.out) ky) kz⟩
    | false =>
      cases is with
      | false =>
        go_wp2_with (fail)
        go_ret
        exact ⟨rfl, HB.out⟩
      | true =>
        go_wp2_with (fail)
        refine (CMb.out _ R_b.out R_l.out).mono ?_
        rintro e w12 ⟨vm, M, rfl, hM, om, kk⟩
        replace HB := hidIt (on HB.out kk)
        replace R_l := hidIt (R_l.out.kept kk)
        replace R_b := hidIt (R_b.out.kept kk)
        replace R_d := hidIt (R_d.out.kept kk)
        replace R_p := hidIt (R_p.out.kept kk)
        clear kk
        obtain ⟨okB, eM, hst⟩ := FB.out B M (by first | rfl | trivial) HBq.out hM
        subst eM
        obtain ⟨a_m, c_m, ev, le_m, cm_m, rr⟩ := om.formN HBN.out
        subst ev
        have R_m := hidIt rr
        clear rr om hM FB HBq CMb
        have HST := hidIt hst
        clear hst
        rw [okB] at COb
        clear okB
        go_wp2_with (fail)
        generalize hww : w12 = wK at *
        clear hww
        go_loopw [22] (fun y wx => ∃ i : Nat, y = .int .i64 i ∧ i ≤ nb ∧ Hid (Below wK.heap.size wK wx)) (fun y _ => (nb - intOf y).toNat)
        case atStart => exact ⟨0, rfl, by omega, hidIt (Below.refl _ _)⟩
        case round =>
          obtain ⟨i, rfl, hi, KX⟩ := hrel
          by_cases hin : i < nb
          · have hin' : (i : Int) < (nb : Int) := by omega
            have RA := hidIt (R_m.out.kept KX.out)
            have hmem := rat_mem (L := M) (i := i) (by rw [HBN.out]; exact hin)
            have hs := HST.out _ hmem
            obtain ⟨b1, o1, rfl, c0, c1, c2⟩ := RA.out.all (i := i) (by rw [HBN.out]; omega)
            generalize rat M i = x at c0 c1 c2 hs hmem
            obtain ⟨x0, x1, x2⟩ := x
            simp only at c0 c1 c2 hs
            clear hmem
            by_cases hid : x0 = id
            · have hx2 := hs hid
              subst hx2
              have e0 : (x0 == id) = true := by simp [hid]
              clear RA hs hid
              go_wp2_with (fail)
              exact ⟨⟨i + 1, by simp, by omega, KX⟩, by simp [intOf]; omega⟩
            · have e0 : (x0 == id) = false := by simp [hid]
              clear RA hs hid
              go_wp2_with (fail)
              exact ⟨⟨i + 1, by simp, by omega, KX⟩, by simp [intOf]; omega⟩
          · have hin' : ¬ (i : Int) < (nb : Int) := by omega
            go_wp2_with (fail)
            refine (COb.out _ (R_b.out.kept KX.out)).mono ?_
            rintro e wy ⟨rfl, ky⟩
            go_wp2_with (fail)
            refine (CLb.out _ a_m a_b c_m c_b ((R_m.out.kept KX.out).kept ky) ((R_b.out.kept KX.out).kept ky)).mono ?_
            rintro e wz ⟨rfl, kz⟩
            go_wp2_with (fail)
            go_ret
            exact ⟨rfl, on (on (on HB.out KX.out) ky) kz⟩
end Go.Proofs.Ytlcbapijpdlolaa.Mm
