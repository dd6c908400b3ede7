/-
  What the drawing functions of chapter 2 answer, whatever the bytes: some Point of two int64; they turn their own cursor alone.
-/
import Derived.Test.YtciikondckoboaaGreatDoorFieldAll
import Derived.Test.YtciikondckoboaaGreatDoorDraw
import Derived.Test.YtciikondckoboaaGreatDoorCurveW
import Derived.Test.YtciikondckoboaaGreatDoorLawC2
namespace Go.Proofs.YtciikondckoboaaGreatDoor.Cv
open Go.ChangeShapes Go.WideShapes Go.ChangeAt Go.RowKit
open Cu Dr
theorem root_some (q : Nat) (w : World) (h : q < 10007) : Calls Tryz.prog 45 #[.int .i64 q] w fun e w' => ∃ r : Int, -1 ≤ r ∧ r < 10007 ∧ e = .returned (.int .i64 r) ∧ w' = w := by
  by_cases hr : Pl.pw q 2502 * Pl.pw q 2502 % 10007 = q
  · refine (Fd.spec_Root_yes q w h hr).mono ?_
    rintro e w' ⟨rfl, rfl⟩
    have hq := Pl.pw_lt q 2502
    refine ⟨_, ?_, ?_, rfl, rfl⟩
    · unfold Fd.rt; split <;> omega
    · unfold Fd.rt; split <;> omega
  · refine (Fd.spec_Root_none q w h hr).mono ?_
    rintro e w' ⟨rfl, rfl⟩
    exact ⟨-1, by decide, by decide, rfl, rfl⟩
theorem root_int (q : Int) (w : World) (h0 : 0 ≤ q) (h : q < 10007) : Calls Tryz.prog 45 #[.int .i64 q] w fun e w' => ∃ r : Int, -1 ≤ r ∧ r < 10007 ∧ e = .returned (.int .i64 r) ∧ w' = w := by
  obtain ⟨a, rfl⟩ := Int.eq_ofNat_of_zero_le h0
  exact root_some a w (by omega)
theorem ret_viaI {fn : Func} {tm : Array Value} {wf : World} {b : Nat} {x y : Int} {v : Value} (t : Tw wf b x y) (h : ∀ w2, Tw w2 b x y → (results fn tm).run Tryz.prog w2 = .ok v w2) : (results fn tm).run Tryz.prog wf = .ok v wf := h wf t
theorem mul_int {m u : Int} (h0 : 0 ≤ m) (h1 : m < 10007) (k0 : 0 ≤ u) (k1 : u < 10007) : m * u ≤ 100120036 ∧ 0 ≤ m * u := by
  obtain ⟨a, rfl⟩ := Int.eq_ofNat_of_zero_le h0
  obtain ⟨b, rfl⟩ := Int.eq_ofNat_of_zero_le k0
  exact Fd.mul_le a b (by omega) (by omega)
theorem far_cur {B c : Nat} {a : Option Addr} {len cap : Nat} {w : World} {s : Nat} {u v : Value} (h : Cur B w c a len cap) (hs : c < s) : Cur B ((w.setCell ⟨s, 0, none⟩ u).setCell ⟨s, 1, none⟩ v) c a len cap :=
  h.kept (((Below.refl (c + 1) w).setCell (by simp; omega) _).setCell (by simp; omega) _)
theorem far_only {c : Nat} {w0 w : World} {u v : Value} (h : Only c w0 w) : Only c w0 ((w.setCell ⟨w0.heap.size, 0, none⟩ u).setCell ⟨w0.heap.size, 1, none⟩ v) :=
  (h.setNew (by simp) _).setNew (by simp) _
theorem l1Inv_some (x : Int) (w : World) (h0 : 0 ≤ x) (h1 : x < 10007) : Calls Tryz.prog 44 #[.int .i64 x, .int .i64 10005] w fun e w' => ∃ u : Int, 0 ≤ u ∧ u < 10007 ∧ e = .returned (.int .i64 u) ∧ w' = w := by
  refine (l1Inv x w h0 h1).mono ?_
  rintro e w' ⟨rfl, rfl⟩
  have := iv_lt x.toNat
  exact ⟨_, by omega, by omega, rfl, rfl⟩
set_option maxRecDepth 100000 in
set_option maxHeartbeats 4000000 in
theorem l2Draw_any (B c : Nat) (a : Option Addr) (len cap : Nat) (w : World) (hC : Cur B w c a len cap) :
    Calls Tryz.prog 24 #[.pointer (some ⟨c, 0, none⟩)] w fun e w' => ∃ x y : Int, e = .returned (.agg #[.int .i64 x, .int .i64 y]) ∧ Cur B w' c a len cap ∧ Only c w w' := by
  have hlt := hC.lt
  have HC : Hid (Cur B w c a len cap) := hC
  clear hC
  go_enter Tryz.func24, Tryz.ntmps24
  go_wp2_with (fail)
  refine (l1Once_any B c a len cap _ _ (by decide) (HC.out.kept ((Below.refl (c + 1) w).alloc (by omega) _))).mono ?_
  rintro e w1 ⟨f, rfl, hC1, hO1⟩
  have z1 : w.heap.size < w1.heap.size := by have := hO1.size; simp at this; omega
  have r1 : Two w1 w.heap.size (0, 0) := (Two.newAt (x := 0) (y := 0) rfl).only hO1 (by omega)
  have HC1 := Hid.mk' hC1
  have HO1 := Hid.mk' (((Only.refl c w).alloc _).trans hO1)
  clear hC1 hO1
  cases f with
  | true =>
    have v0 := r1.c0
    have v1 := r1.c1
    have v2 := r1.f0
    have v3 := r1.f1
    dsimp only at v0 v1
    clear r1
    go_wp2_with (fail)
    refine (l1Below_any B c a len cap _ _ (by decide) (HC1.out.kept ((Below.refl (c + 1) _).alloc (by omega) _))).mono ?_
    rintro e w2 ⟨x, x0, x1, rfl, hC2, hO2⟩
    have z2 : w1.heap.size < w2.heap.size := by have := hO2.size; simp at this; omega
    have z3 : w.heap.size < w2.heap.size := by omega
    have hcell := fun o => hO2.cell (p := ⟨w1.heap.size, o, none⟩) (by simp) (by simp; omega)
    have HR2 := Hid.mk' (((Two.mk z1 v0 v1 v2 v3 : Two w1 w.heap.size (0, 0)).alloc _).only hO2 (by omega))
    have HC2 := Hid.mk' hC2
    have HO2 := Hid.mk' ((HO1.out.alloc _).trans hO2)
    clear hC2 hO2 v0 v1 v2 v3
    have v0 := HR2.out.c0
    have v1 := HR2.out.c1
    have v2 := HR2.out.f0
    have v3 := HR2.out.f1
    dsimp only at v0 v1
    have hx : x = 0 ∨ x = 1 ∨ x = 2 ∨ x = 3 ∨ x = 4 ∨ x = 5 ∨ x = 6 := by omega
    clear x0 x1
    rcases hx with rfl | rfl | rfl | rfl | rfl | rfl | rfl
    · go_wp2_with (fail)
      refine bodyPost_ret (v := .agg #[.int .i64 0, .int .i64 0]) ?_ rfl ⟨_, _, rfl, far_cur HC2.out hlt, far_only HO2.out⟩
      refine ret_viaI (x := 0) (y := 0) (Tw.put z3 v0 v1) (fun w9 k => ?_)
      have k0 := k.c0
      have k1 := k.c1
      clear k v0 v1 v2 v3
      simp [results, Tryz.results24, go_sem, k0, k1]
    · go_wp2_with (fail)
      refine bodyPost_ret (v := .agg #[.int .i64 0, .int .i64 1]) ?_ rfl ⟨_, _, rfl, far_cur HC2.out hlt, far_only HO2.out⟩
      refine ret_viaI (x := 0) (y := 1) (Tw.put z3 v0 v1) (fun w9 k => ?_)
      have k0 := k.c0
      have k1 := k.c1
      clear k v0 v1 v2 v3
      simp [results, Tryz.results24, go_sem, k0, k1]
    · go_wp2_with (fail)
      refine bodyPost_ret (v := .agg #[.int .i64 0, .int .i64 10006]) ?_ rfl ⟨_, _, rfl, far_cur HC2.out hlt, far_only HO2.out⟩
      refine ret_viaI (x := 0) (y := 10006) (Tw.put z3 v0 v1) (fun w9 k => ?_)
      have k0 := k.c0
      have k1 := k.c1
      clear k v0 v1 v2 v3
      simp [results, Tryz.results24, go_sem, k0, k1]
    · go_wp2_with (fail)
      refine bodyPost_ret (v := .agg #[.int .i64 1, .int .i64 0]) ?_ rfl ⟨_, _, rfl, far_cur HC2.out hlt, far_only HO2.out⟩
      refine ret_viaI (x := 1) (y := 0) (Tw.put z3 v0 v1) (fun w9 k => ?_)
      have k0 := k.c0
      have k1 := k.c1
      clear k v0 v1 v2 v3
      simp [results, Tryz.results24, go_sem, k0, k1]
    · go_wp2_with (fail)
      refine bodyPost_ret (v := .agg #[.int .i64 10006, .int .i64 0]) ?_ rfl ⟨_, _, rfl, far_cur HC2.out hlt, far_only HO2.out⟩
      refine ret_viaI (x := 10006) (y := 0) (Tw.put z3 v0 v1) (fun w9 k => ?_)
      have k0 := k.c0
      have k1 := k.c1
      clear k v0 v1 v2 v3
      simp [results, Tryz.results24, go_sem, k0, k1]
    · go_wp2_with (fail)
      refine bodyPost_ret (v := .agg #[.int .i64 (-1), .int .i64 1]) ?_ rfl ⟨_, _, rfl, far_cur HC2.out hlt, far_only HO2.out⟩
      refine ret_viaI (x := (-1)) (y := 1) (Tw.put z3 v0 v1) (fun w9 k => ?_)
      have k0 := k.c0
      have k1 := k.c1
      clear k v0 v1 v2 v3
      simp [results, Tryz.results24, go_sem, k0, k1]
    · go_wp2_with (fail)
      refine bodyPost_ret (v := .agg #[.int .i64 2791, .int .i64 6376]) ?_ rfl ⟨_, _, rfl, far_cur HC2.out hlt, far_only HO2.out⟩
      refine ret_viaI (x := 2791) (y := 6376) (Tw.put z3 v0 v1) (fun w9 k => ?_)
      have k0 := k.c0
      have k1 := k.c1
      clear k v0 v1 v2 v3
      simp [results, Tryz.results24, go_sem, k0, k1]
  | false =>
    have HR1 := Hid.mk' r1
    clear r1
    go_wp2_with (fail)
    refine (l1Once_any B c a len cap _ _ (by decide) HC1.out).mono ?_
    rintro e w2 ⟨f, rfl, hC2, hO2⟩
    have z2 : w.heap.size < w2.heap.size := by have := hO2.size; omega
    have HR2 := Hid.mk' (HR1.out.only hO2 (by omega))
    have HC2 := Hid.mk' hC2
    have HO2 := Hid.mk' (HO1.out.trans hO2)
    clear hC2 hO2 HC1 HO1 HR1
    cases f with
    | true =>
      go_wp2_with (fail)
      refine (l1Below_any B c a len cap _ _ (by decide) HC2.out).mono ?_
      rintro e w3 ⟨n, n0, n1, rfl, hC3, hO3⟩
      have z3 : w.heap.size < w3.heap.size := by have := hO3.size; omega
      have HR3 := Hid.mk' (HR2.out.only hO3 (by omega))
      have HC3 := Hid.mk' hC3
      have HO3 := Hid.mk' (HO2.out.trans hO3)
      clear hC3 hO3 HC2 HO2 HR2
      go_wp2_with (fail)
      refine (spec_Base _).mono ?_
      rintro e w4 ⟨rfl, hb4⟩
      have z4 : w.heap.size < w4.heap.size := by have := hb4.size; omega
      have c4 : c < w3.heap.size := HC3.out.lt
      have HR4 := Hid.mk' (HR3.out.kept hb4 z3)
      have HC4 := Hid.mk' (HC3.out.kept (hb4.mono (by omega)))
      have HO4 := Hid.mk' (HO3.out.trans (Only.of_below hb4))
      clear hb4 HC3 HO3 HR3
      obtain ⟨k, rfl⟩ := Int.eq_ofNat_of_zero_le n0
      go_wp2_with (fail)
      refine (l2Times_any 2791 6375 k _ ok_base (by omega)).mono ?_
      rintro e w5 ⟨rfl, hb5⟩
      have z5 : w.heap.size < w5.heap.size := by have := hb5.size; omega
      have c5 : c < w4.heap.size := HC4.out.lt
      have HR5 := Hid.mk' (HR4.out.kept hb5 z4)
      have HC5 := Hid.mk' (HC4.out.kept (hb5.mono (by omega)))
      have HO5 := Hid.mk' (HO4.out.trans (Only.of_below hb5))
      clear hb5 HC4 HO4 HR4
      have v0 := HR5.out.c0
      have v1 := HR5.out.c1
      have v2 := HR5.out.f0
      have v3 := HR5.out.f1
      dsimp only at v0 v1
      go_wp2_with (fail)
      refine bodyPost_ret (v := .agg #[.int .i64 ((ns (2791, 6375) k).1 : Int), .int .i64 ((ns (2791, 6375) k).2 : Int)]) ?_ rfl ⟨_, _, rfl, far_cur HC5.out hlt, far_only HO5.out⟩
      refine ret_viaI (x := ((ns (2791, 6375) k).1 : Int)) (y := ((ns (2791, 6375) k).2 : Int)) (Tw.put z5 v0 v1) (fun w9 k => ?_)
      have k0 := k.c0
      have k1 := k.c1
      clear k v0 v1 v2 v3
      simp [results, Tryz.results24, go_sem, k0, k1]
    | false =>
      go_wp2_with (fail)
      refine (l1Below_any B c a len cap _ _ (by decide) HC2.out).mono ?_
      rintro e w3 ⟨y, y0, y1, rfl, hC3, hO3⟩
      have z3 : w.heap.size < w3.heap.size := by have := hO3.size; omega
      have HR3 := Hid.mk' (HR2.out.only hO3 (by omega))
      have HC3 := Hid.mk' hC3
      have HO3 := Hid.mk' (HO2.out.trans hO3)
      clear hC3 hO3 HC2 HO2 HR2
      go_wp2_with (fail)
      go_loopw [4] (fun t wx => ∃ i : Nat, t = .int .i64 i ∧ i ≤ 40 ∧ Cur B wx c a len cap ∧ Only c w wx ∧ Two wx w.heap.size (0, 0)) (fun t _ => 40 - (intOf t).toNat)
      case atStart => exact ⟨0, rfl, by omega, HC3.out, HO3.out, HR3.out⟩
      case round =>
        obtain ⟨i, rfl, hi, hC, hO, hR⟩ := hrel
        have HCr := Hid.mk' hC
        have HOr := Hid.mk' hO
        have HRr := Hid.mk' hR
        have v0 := hR.c0
        have v1 := hR.c1
        have v2 := hR.f0
        have v3 := hR.f1
        have v4 := hR.lt
        dsimp only at v0 v1
        clear hC hO hR HC3 HO3 HR3
        by_cases hl : i < 40
        · have hl' : ((i : Int)) < 40 := by omega
          have hv : 0 ≤ (y + (i : Int)) % 10007 ∧ (y + (i : Int)) % 10007 < 10007 := by omega
          have b1 := mul_int hv.1 hv.2 hv.1 hv.2
          go_wp2_with (fail)
          refine (l1Inv_some _ _ (by omega) (by omega)).mono ?_
          rintro e w4 ⟨u, hu0, hu1, rfl, rfl⟩
          have b2 := mul_int (m := (10008 - (y + (i : Int)) % 10007 * ((y + (i : Int)) % 10007) % 10007) % 10007) (by omega) (by omega) hu0 hu1
          have b3 := mul_int (m := (10008 - (y + (i : Int)) % 10007 * ((y + (i : Int)) % 10007)) % 10007) (by omega) (by omega) hu0 hu1
          go_wp2_with (fail)
          refine (root_int _ _ (by omega) (by omega)).mono ?_
          rintro e w5 ⟨r, hr0, hr1, rfl, rfl⟩
          clear b1 b2 b3
          by_cases hr : 0 ≤ r
          · go_wp2_with (fail)
            refine (l1Once_any B c a len cap _ _ (by decide) HCr.out).mono ?_
            rintro e w5 ⟨f, rfl, hC5, hO5⟩
            have z5 : w.heap.size < w5.heap.size := by have := hO5.size; omega
            have HR5 := Hid.mk' (HRr.out.only hO5 (by omega))
            have HC5 := Hid.mk' hC5
            have HO5 := Hid.mk' (HOr.out.trans hO5)
            clear hC5 hO5 v0 v1 v2 v3
            cases f with
            | true =>
              have v0 := HR5.out.c0
              have v1 := HR5.out.c1
              have v2 := HR5.out.f0
              have v3 := HR5.out.f1
              dsimp only at v0 v1
              go_wp2_with (fail)
              refine bodyPost_ret (v := .agg #[.int .i64 (-r % 10007), .int .i64 ((y + (i : Int)) % 10007)]) ?_ rfl ⟨_, _, rfl, far_cur HC5.out hlt, far_only HO5.out⟩
              refine ret_viaI (x := (-r % 10007)) (y := ((y + (i : Int)) % 10007)) (Tw.put z5 v0 v1) (fun w9 k => ?_)
              have k0 := k.c0
              have k1 := k.c1
              clear k v0 v1 v2 v3
              simp [results, Tryz.results24, go_sem, k0, k1]
            | false =>
              have v0 := HR5.out.c0
              have v1 := HR5.out.c1
              have v2 := HR5.out.f0
              have v3 := HR5.out.f1
              dsimp only at v0 v1
              go_wp2_with (fail)
              refine bodyPost_ret (v := .agg #[.int .i64 r, .int .i64 ((y + (i : Int)) % 10007)]) ?_ rfl ⟨_, _, rfl, far_cur HC5.out hlt, far_only HO5.out⟩
              refine ret_viaI (x := r) (y := ((y + (i : Int)) % 10007)) (Tw.put z5 v0 v1) (fun w9 k => ?_)
              have k0 := k.c0
              have k1 := k.c1
              clear k v0 v1 v2 v3
              simp [results, Tryz.results24, go_sem, k0, k1]
          · go_wp2_with (fail)
            refine ⟨⟨i + 1, by go_num, by omega, HCr.out, HOr.out, HRr.out⟩, by simp [intOf]; omega⟩
        · go_wp2_with (fail)
          refine (spec_Nought _).mono ?_
          rintro e w4 ⟨rfl, hb4⟩
          have z4 : w.heap.size < w4.heap.size := by have := hb4.size; omega
          have c4 := HCr.out.lt
          have HR4 := Hid.mk' (HRr.out.kept hb4 v4)
          have HC4 := Hid.mk' (HCr.out.kept (hb4.mono (by omega)))
          have HO4 := Hid.mk' (HOr.out.trans (Only.of_below hb4))
          clear hb4 v0 v1 v2 v3
          have v0 := HR4.out.c0
          have v1 := HR4.out.c1
          have v2 := HR4.out.f0
          have v3 := HR4.out.f1
          dsimp only at v0 v1
          go_wp2_with (fail)
          refine bodyPost_ret (v := .agg #[.int .i64 0, .int .i64 1]) ?_ rfl ⟨_, _, rfl, far_cur HC4.out hlt, far_only HO4.out⟩
          refine ret_viaI (x := 0) (y := 1) (Tw.put z4 v0 v1) (fun w9 k => ?_)
          have k0 := k.c0
          have k1 := k.c1
          clear k v0 v1 v2 v3
          simp [results, Tryz.results24, go_sem, k0, k1]
end Go.Proofs.YtciikondckoboaaGreatDoor.Cv
